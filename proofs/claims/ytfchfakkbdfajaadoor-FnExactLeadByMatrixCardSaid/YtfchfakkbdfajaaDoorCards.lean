/-
  DERIVED. GIVEN WITH THE SEED: THE CARDS: each row of YtfchfakkbdfajaaDoorRows.lean that lists a variable, with what it lists TIED to the program's text (the seventh form; the later family's looks); each row that meets fmt, with fmt's text TOLD by the authors' own Lean function (tested against real Go, not proved from fmt's source: count such statements apart). THE CARD IS WHAT COUNTS. Prove the row's statement (the work); the ties are given (YtfchfakkbdfajaaDoorTie.lean); close each card by the builder's one call (the guide's Derived/Test/ToyasCard.lean, 'card_holds'). Laid BY PROGRAM, IN A SANDBOX (cutbox-door.mjs). By AI agents, Wed Nov 11 2026. No macro, syntax, notation, axiom, sorry.
-/
import Derived.Test.YtfchfakkbdfajaaDoorRows
import GoSem.ClaimSeven
namespace Go.Proofs.YtfchfakkbdfajaaDoor
namespace Rows

/-- THE TIED CARD OF 'laws.FnExactLeadPoint'. -/
def fnExactLeadPointCard : Claim7 := { stood := { row := fnExactLeadPointRow, standIns := [], harness := (true, "48c591b9978443e7ff59283bfe046c42137bf1e29ffc9a26600c2cb0fbc65c73"), looks := false }, kinds := [], alts := [], laidByText := true, laidKinds := [.data, .data], laidTests := true, laidLooks := .later }
def FnExactLeadPointCardSaid : Prop := Claim7.holds Tryd.pinned (.plain (OpenSpec.ofChange fnExactLeadPointSpec)) fnExactLeadPointCard

/-- THE TIED CARD OF 'laws.FnExactActionOfLevel'. -/
def fnExactActionOfLevelCard : Claim7 := { stood := { row := fnExactActionOfLevelRow, standIns := [], harness := (true, "48c591b9978443e7ff59283bfe046c42137bf1e29ffc9a26600c2cb0fbc65c73"), looks := false }, kinds := [], alts := [], laidByText := true, laidKinds := [.data], laidTests := true, laidLooks := .later }
def FnExactActionOfLevelCardSaid : Prop := Claim7.holds Tryd.pinned (.plain (OpenSpec.ofChange fnExactActionOfLevelSpec)) fnExactActionOfLevelCard

/-- THE TIED CARD OF 'laws.FnExactLeadByMatrix'. -/
def fnExactLeadByMatrixCard : Claim7 := { stood := { row := fnExactLeadByMatrixRow, standIns := [], harness := (true, "48c591b9978443e7ff59283bfe046c42137bf1e29ffc9a26600c2cb0fbc65c73"), looks := false }, kinds := [], alts := [], laidByText := true, laidKinds := [.data], laidTests := true, laidLooks := .later }
def FnExactLeadByMatrixCardSaid : Prop := Claim7.holds Tryd.pinned (.plain (OpenSpec.ofChange fnExactLeadByMatrixSpec)) fnExactLeadByMatrixCard

/-- THE TIED CARD OF 'laws.FnExactGenusOf'. -/
def fnExactGenusOfCard : Claim7 := { stood := { row := fnExactGenusOfRow, standIns := [], harness := (true, "48c591b9978443e7ff59283bfe046c42137bf1e29ffc9a26600c2cb0fbc65c73"), looks := false }, kinds := [], alts := [], laidByText := true, laidKinds := [.data, .data], laidTests := true, laidLooks := .later }
def FnExactGenusOfCardSaid : Prop := Claim7.holds Tryd.pinned (.plain (OpenSpec.ofChange fnExactGenusOfSpec)) fnExactGenusOfCard

/-- THE SECOND FORM's CARD OF 'laws.FnExactLeadPoint'. -/
def fnExactLeadPointUptoCard : Claim7 := { stood := { row := fnExactLeadPointUptoRow, standIns := [], harness := (true, "48c591b9978443e7ff59283bfe046c42137bf1e29ffc9a26600c2cb0fbc65c73"), looks := false }, kinds := [], alts := [], laidByText := true, laidKinds := [.data, .data], laidTests := true, laidLooks := .later }
def FnExactLeadPointUptoCardSaid : Prop := Claim7.holds Tryd.pinned (.plain (OpenSpec.upto fnExactLeadPointSpec)) fnExactLeadPointUptoCard

/-- THE SECOND FORM's CARD OF 'laws.FnExactActionOfLevel'. -/
def fnExactActionOfLevelUptoCard : Claim7 := { stood := { row := fnExactActionOfLevelUptoRow, standIns := [], harness := (true, "48c591b9978443e7ff59283bfe046c42137bf1e29ffc9a26600c2cb0fbc65c73"), looks := false }, kinds := [], alts := [], laidByText := true, laidKinds := [.data], laidTests := true, laidLooks := .later }
def FnExactActionOfLevelUptoCardSaid : Prop := Claim7.holds Tryd.pinned (.plain (OpenSpec.upto fnExactActionOfLevelSpec)) fnExactActionOfLevelUptoCard

/-- THE SECOND FORM's CARD OF 'laws.FnExactLeadByMatrix'. -/
def fnExactLeadByMatrixUptoCard : Claim7 := { stood := { row := fnExactLeadByMatrixUptoRow, standIns := [], harness := (true, "48c591b9978443e7ff59283bfe046c42137bf1e29ffc9a26600c2cb0fbc65c73"), looks := false }, kinds := [], alts := [], laidByText := true, laidKinds := [.data], laidTests := true, laidLooks := .later }
def FnExactLeadByMatrixUptoCardSaid : Prop := Claim7.holds Tryd.pinned (.plain (OpenSpec.upto fnExactLeadByMatrixSpec)) fnExactLeadByMatrixUptoCard

/-- THE SECOND FORM's CARD OF 'laws.FnExactGenusOf'. -/
def fnExactGenusOfUptoCard : Claim7 := { stood := { row := fnExactGenusOfUptoRow, standIns := [], harness := (true, "48c591b9978443e7ff59283bfe046c42137bf1e29ffc9a26600c2cb0fbc65c73"), looks := false }, kinds := [], alts := [], laidByText := true, laidKinds := [.data, .data], laidTests := true, laidLooks := .later }
def FnExactGenusOfUptoCardSaid : Prop := Claim7.holds Tryd.pinned (.plain (OpenSpec.upto fnExactGenusOfSpec)) fnExactGenusOfUptoCard
end Rows
end Go.Proofs.YtfchfakkbdfajaaDoor
