/-
  DERIVED. GIVEN WITH THE SEED: THE CARDS: each row of YtpmifhjbngocmaaDoorRows.lean that lists a variable, with what it lists TIED to the program's text (the seventh form; the later family's looks); each row that meets fmt, with fmt's text TOLD by the authors' own Lean function (tested against real Go, not proved from fmt's source: count such statements apart). THE CARD IS WHAT COUNTS. Prove the row's statement (the work); the ties are given (YtpmifhjbngocmaaDoorTie.lean); close each card by the builder's one call (the guide's Derived/Test/ToyasCard.lean, 'card_holds'). Laid BY PROGRAM, IN A SANDBOX (cutbox-door.mjs). By AI agents, Wed Nov 11 2026. No macro, syntax, notation, axiom, sorry.
-/
import Derived.Test.YtpmifhjbngocmaaDoorRows
import GoSem.ClaimSeven
namespace Go.Proofs.YtpmifhjbngocmaaDoor
namespace Rows

/-- THE TIED CARD OF 'laws.FnExactParabolicShift'. -/
def fnExactParabolicShiftCard : Claim7 := { stood := { row := fnExactParabolicShiftRow, standIns := [], harness := (true, "5d6cacd5640d36f9b5a073dcbbe6098ab538440c7eb508cde6ea05f6ab940d79"), looks := true }, kinds := [], alts := [], laidByText := true, laidKinds := [.data], laidTests := true, laidLooks := .later }
def FnExactParabolicShiftCardSaid : Prop := Claim7.holds Tryd.pinned (.plain (OpenSpec.ofChange fnExactParabolicShiftSpec)) fnExactParabolicShiftCard

/-- THE TIED CARD OF 'laws.FnExactEllipticName'. -/
def fnExactEllipticNameCard : Claim7 := { stood := { row := fnExactEllipticNameRow, standIns := [], harness := (true, "5d6cacd5640d36f9b5a073dcbbe6098ab538440c7eb508cde6ea05f6ab940d79"), looks := true }, kinds := [], alts := [], laidByText := true, laidKinds := [.data], laidTests := true, laidLooks := .later }
def FnExactEllipticNameCardSaid : Prop := Claim7.holds Tryd.pinned (.plain (OpenSpec.ofChange fnExactEllipticNameSpec)) fnExactEllipticNameCard

/-- THE TIED CARD OF 'laws.FnExactParentsOf'. -/
def fnExactParentsOfCard : Claim7 := { stood := { row := fnExactParentsOfRow, standIns := [], harness := (true, "5d6cacd5640d36f9b5a073dcbbe6098ab538440c7eb508cde6ea05f6ab940d79"), looks := true }, kinds := [], alts := [], laidByText := true, laidKinds := [.data, .sentinel], laidTests := true, laidLooks := .later }
def FnExactParentsOfCardSaid : Prop := Claim7.holds Tryd.pinned (.plain (OpenSpec.ofChange fnExactParentsOfSpec)) fnExactParentsOfCard

/-- THE TIED CARD OF 'laws.FnExactOrderOf'. -/
def fnExactOrderOfCard : Claim7 := { stood := { row := fnExactOrderOfRow, standIns := [], harness := (true, "5d6cacd5640d36f9b5a073dcbbe6098ab538440c7eb508cde6ea05f6ab940d79"), looks := true }, kinds := [], alts := [], laidByText := true, laidKinds := [.data], laidTests := true, laidLooks := .later }
def FnExactOrderOfCardSaid : Prop := Claim7.holds Tryd.pinned (.plain (OpenSpec.ofChange fnExactOrderOfSpec)) fnExactOrderOfCard

/-- THE TIED CARD OF 'laws.FnExactConvergentsOf'. -/
def fnExactConvergentsOfCard : Claim7 := { stood := { row := fnExactConvergentsOfRow, standIns := [], harness := (true, "5d6cacd5640d36f9b5a073dcbbe6098ab538440c7eb508cde6ea05f6ab940d79"), looks := true }, kinds := [], alts := [], laidByText := true, laidKinds := [.sentinel], laidTests := true, laidLooks := .later }
def FnExactConvergentsOfCardSaid : Prop := Claim7.holds Tryd.pinned (.plain (OpenSpec.ofChange fnExactConvergentsOfSpec)) fnExactConvergentsOfCard

/-- THE TIED CARD OF 'laws.FnExactNextInRow'. -/
def fnExactNextInRowCard : Claim7 := { stood := { row := fnExactNextInRowRow, standIns := [], harness := (true, "5d6cacd5640d36f9b5a073dcbbe6098ab538440c7eb508cde6ea05f6ab940d79"), looks := true }, kinds := [], alts := [], laidByText := true, laidKinds := [.sentinel], laidTests := true, laidLooks := .later }
def FnExactNextInRowCardSaid : Prop := Claim7.holds Tryd.pinned (.plain (OpenSpec.ofChange fnExactNextInRowSpec)) fnExactNextInRowCard

/-- THE SECOND FORM's CARD OF 'laws.FnExactParabolicShift'. -/
def fnExactParabolicShiftUptoCard : Claim7 := { stood := { row := fnExactParabolicShiftUptoRow, standIns := [], harness := (true, "5d6cacd5640d36f9b5a073dcbbe6098ab538440c7eb508cde6ea05f6ab940d79"), looks := true }, kinds := [], alts := [], laidByText := true, laidKinds := [.data], laidTests := true, laidLooks := .later }
def FnExactParabolicShiftUptoCardSaid : Prop := Claim7.holds Tryd.pinned (.plain (OpenSpec.upto fnExactParabolicShiftSpec)) fnExactParabolicShiftUptoCard

/-- THE SECOND FORM's CARD OF 'laws.FnExactEllipticName'. -/
def fnExactEllipticNameUptoCard : Claim7 := { stood := { row := fnExactEllipticNameUptoRow, standIns := [], harness := (true, "5d6cacd5640d36f9b5a073dcbbe6098ab538440c7eb508cde6ea05f6ab940d79"), looks := true }, kinds := [], alts := [], laidByText := true, laidKinds := [.data], laidTests := true, laidLooks := .later }
def FnExactEllipticNameUptoCardSaid : Prop := Claim7.holds Tryd.pinned (.plain (OpenSpec.upto fnExactEllipticNameSpec)) fnExactEllipticNameUptoCard

/-- THE SECOND FORM's CARD OF 'laws.FnExactParentsOf'. -/
def fnExactParentsOfUptoCard : Claim7 := { stood := { row := fnExactParentsOfUptoRow, standIns := [], harness := (true, "5d6cacd5640d36f9b5a073dcbbe6098ab538440c7eb508cde6ea05f6ab940d79"), looks := true }, kinds := [], alts := [], laidByText := true, laidKinds := [.data, .sentinel], laidTests := true, laidLooks := .later }
def FnExactParentsOfUptoCardSaid : Prop := Claim7.holds Tryd.pinned (.plain (OpenSpec.upto fnExactParentsOfSpec)) fnExactParentsOfUptoCard

/-- THE SECOND FORM's CARD OF 'laws.FnExactOrderOf'. -/
def fnExactOrderOfUptoCard : Claim7 := { stood := { row := fnExactOrderOfUptoRow, standIns := [], harness := (true, "5d6cacd5640d36f9b5a073dcbbe6098ab538440c7eb508cde6ea05f6ab940d79"), looks := true }, kinds := [], alts := [], laidByText := true, laidKinds := [.data], laidTests := true, laidLooks := .later }
def FnExactOrderOfUptoCardSaid : Prop := Claim7.holds Tryd.pinned (.plain (OpenSpec.upto fnExactOrderOfSpec)) fnExactOrderOfUptoCard

/-- THE SECOND FORM's CARD OF 'laws.FnExactConvergentsOf'. -/
def fnExactConvergentsOfUptoCard : Claim7 := { stood := { row := fnExactConvergentsOfUptoRow, standIns := [], harness := (true, "5d6cacd5640d36f9b5a073dcbbe6098ab538440c7eb508cde6ea05f6ab940d79"), looks := true }, kinds := [], alts := [], laidByText := true, laidKinds := [.sentinel], laidTests := true, laidLooks := .later }
def FnExactConvergentsOfUptoCardSaid : Prop := Claim7.holds Tryd.pinned (.plain (OpenSpec.upto fnExactConvergentsOfSpec)) fnExactConvergentsOfUptoCard

/-- THE SECOND FORM's CARD OF 'laws.FnExactNextInRow'. -/
def fnExactNextInRowUptoCard : Claim7 := { stood := { row := fnExactNextInRowUptoRow, standIns := [], harness := (true, "5d6cacd5640d36f9b5a073dcbbe6098ab538440c7eb508cde6ea05f6ab940d79"), looks := true }, kinds := [], alts := [], laidByText := true, laidKinds := [.sentinel], laidTests := true, laidLooks := .later }
def FnExactNextInRowUptoCardSaid : Prop := Claim7.holds Tryd.pinned (.plain (OpenSpec.upto fnExactNextInRowSpec)) fnExactNextInRowUptoCard
end Rows
end Go.Proofs.YtpmifhjbngocmaaDoor
