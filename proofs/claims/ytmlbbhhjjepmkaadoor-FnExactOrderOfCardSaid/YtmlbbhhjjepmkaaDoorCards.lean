/-
  DERIVED. GIVEN WITH THE SEED: THE CARDS: each row of YtmlbbhhjjepmkaaDoorRows.lean that lists a variable, with what it lists TIED to the program's text (the seventh form; the later family's looks); each row that meets fmt, with fmt's text TOLD by the authors' own Lean function (tested against real Go, not proved from fmt's source: count such statements apart). THE CARD IS WHAT COUNTS. Prove the row's statement (the work); the ties are given (YtmlbbhhjjepmkaaDoorTie.lean); close each card by the builder's one call (the guide's Derived/Test/ToyasCard.lean, 'card_holds'). Laid BY PROGRAM, IN A SANDBOX (cutbox-door.mjs). By AI agents, Wed Nov 11 2026. No macro, syntax, notation, axiom, sorry.
-/
import Derived.Test.YtmlbbhhjjepmkaaDoorRows
import GoSem.ClaimSeven
namespace Go.Proofs.YtmlbbhhjjepmkaaDoor
namespace Rows

/-- THE TIED CARD OF 'laws.FnExactNextInRow'. -/
def fnExactNextInRowCard : Claim7 := { stood := { row := fnExactNextInRowRow, standIns := [], harness := (true, "85941f88752e3c128853fcd3a90c71b4bfdbf3e84aade7a76f4ab01ea3033a78"), looks := true }, kinds := [], alts := [], laidByText := true, laidKinds := [.sentinel], laidTests := true, laidLooks := .later }
def FnExactNextInRowCardSaid : Prop := Claim7.holds Tryd.pinned (.plain (OpenSpec.ofChange fnExactNextInRowSpec)) fnExactNextInRowCard

/-- THE TIED CARD OF 'laws.FnExactOrderOf'. -/
def fnExactOrderOfCard : Claim7 := { stood := { row := fnExactOrderOfRow, standIns := [], harness := (true, "85941f88752e3c128853fcd3a90c71b4bfdbf3e84aade7a76f4ab01ea3033a78"), looks := true }, kinds := [], alts := [], laidByText := true, laidKinds := [.data], laidTests := true, laidLooks := .later }
def FnExactOrderOfCardSaid : Prop := Claim7.holds Tryd.pinned (.plain (OpenSpec.ofChange fnExactOrderOfSpec)) fnExactOrderOfCard

/-- THE TIED CARD OF 'laws.FnExactDistanceOf'. -/
def fnExactDistanceOfCard : Claim7 := { stood := { row := fnExactDistanceOfRow, standIns := [], harness := (true, "85941f88752e3c128853fcd3a90c71b4bfdbf3e84aade7a76f4ab01ea3033a78"), looks := true }, kinds := [], alts := [], laidByText := true, laidKinds := [.data, .data, .sentinel], laidTests := true, laidLooks := .later }
def FnExactDistanceOfCardSaid : Prop := Claim7.holds Tryd.pinned (.plain (OpenSpec.ofChange fnExactDistanceOfSpec)) fnExactDistanceOfCard

/-- THE SECOND FORM's CARD OF 'laws.FnExactNextInRow'. -/
def fnExactNextInRowUptoCard : Claim7 := { stood := { row := fnExactNextInRowUptoRow, standIns := [], harness := (true, "85941f88752e3c128853fcd3a90c71b4bfdbf3e84aade7a76f4ab01ea3033a78"), looks := true }, kinds := [], alts := [], laidByText := true, laidKinds := [.sentinel], laidTests := true, laidLooks := .later }
def FnExactNextInRowUptoCardSaid : Prop := Claim7.holds Tryd.pinned (.plain (OpenSpec.upto fnExactNextInRowSpec)) fnExactNextInRowUptoCard

/-- THE SECOND FORM's CARD OF 'laws.FnExactOrderOf'. -/
def fnExactOrderOfUptoCard : Claim7 := { stood := { row := fnExactOrderOfUptoRow, standIns := [], harness := (true, "85941f88752e3c128853fcd3a90c71b4bfdbf3e84aade7a76f4ab01ea3033a78"), looks := true }, kinds := [], alts := [], laidByText := true, laidKinds := [.data], laidTests := true, laidLooks := .later }
def FnExactOrderOfUptoCardSaid : Prop := Claim7.holds Tryd.pinned (.plain (OpenSpec.upto fnExactOrderOfSpec)) fnExactOrderOfUptoCard

/-- THE SECOND FORM's CARD OF 'laws.FnExactDistanceOf'. -/
def fnExactDistanceOfUptoCard : Claim7 := { stood := { row := fnExactDistanceOfUptoRow, standIns := [], harness := (true, "85941f88752e3c128853fcd3a90c71b4bfdbf3e84aade7a76f4ab01ea3033a78"), looks := true }, kinds := [], alts := [], laidByText := true, laidKinds := [.data, .data, .sentinel], laidTests := true, laidLooks := .later }
def FnExactDistanceOfUptoCardSaid : Prop := Claim7.holds Tryd.pinned (.plain (OpenSpec.upto fnExactDistanceOfSpec)) fnExactDistanceOfUptoCard
end Rows
end Go.Proofs.YtmlbbhhjjepmkaaDoor
