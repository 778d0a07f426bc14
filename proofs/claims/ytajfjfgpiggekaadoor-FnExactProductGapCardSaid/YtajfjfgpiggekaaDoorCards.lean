/-
  DERIVED. GIVEN WITH THE SEED: THE CARDS: each row of YtajfjfgpiggekaaDoorRows.lean that lists a variable, with what it lists TIED to the program's text (the seventh form; the later family's looks); each row that meets fmt, with fmt's text TOLD by the authors' own Lean function (tested against real Go, not proved from fmt's source: count such statements apart). THE CARD IS WHAT COUNTS. Prove the row's statement (the work); the ties are given (YtajfjfgpiggekaaDoorTie.lean); close each card by the builder's one call (the guide's Derived/Test/ToyasCard.lean, 'card_holds'). Laid BY PROGRAM, IN A SANDBOX (cutbox-door.mjs). By AI agents, Wed Nov 11 2026. No macro, syntax, notation, axiom, sorry.
-/
import Derived.Test.YtajfjfgpiggekaaDoorRows
import GoSem.ClaimSeven
namespace Go.Proofs.YtajfjfgpiggekaaDoor
namespace Rows

/-- THE TIED CARD OF 'laws.FnExactProductGap'. -/
def fnExactProductGapCard : Claim7 := { stood := { row := fnExactProductGapRow, standIns := [], harness := (true, "b9d44121abc4f63ce4b7b3edf7ba59d4d1e2bc76de2d8a3286182b80d11cf589"), looks := false }, kinds := [], alts := [], laidByText := true, laidKinds := [.data], laidTests := true, laidLooks := .later }
def FnExactProductGapCardSaid : Prop := Claim7.holds Tryd.pinned (.plain (OpenSpec.ofChange fnExactProductGapSpec)) fnExactProductGapCard

/-- THE TIED CARD OF 'laws.FnExactCuspOfFraction'. -/
def fnExactCuspOfFractionCard : Claim7 := { stood := { row := fnExactCuspOfFractionRow, standIns := [], harness := (true, "b9d44121abc4f63ce4b7b3edf7ba59d4d1e2bc76de2d8a3286182b80d11cf589"), looks := false }, kinds := [], alts := [], laidByText := true, laidKinds := [.data], laidTests := true, laidLooks := .later }
def FnExactCuspOfFractionCardSaid : Prop := Claim7.holds Tryd.pinned (.plain (OpenSpec.ofChange fnExactCuspOfFractionSpec)) fnExactCuspOfFractionCard

/-- THE SECOND FORM's CARD OF 'laws.FnExactProductGap'. -/
def fnExactProductGapUptoCard : Claim7 := { stood := { row := fnExactProductGapUptoRow, standIns := [], harness := (true, "b9d44121abc4f63ce4b7b3edf7ba59d4d1e2bc76de2d8a3286182b80d11cf589"), looks := false }, kinds := [], alts := [], laidByText := true, laidKinds := [.data], laidTests := true, laidLooks := .later }
def FnExactProductGapUptoCardSaid : Prop := Claim7.holds Tryd.pinned (.plain (OpenSpec.upto fnExactProductGapSpec)) fnExactProductGapUptoCard

/-- THE SECOND FORM's CARD OF 'laws.FnExactCuspOfFraction'. -/
def fnExactCuspOfFractionUptoCard : Claim7 := { stood := { row := fnExactCuspOfFractionUptoRow, standIns := [], harness := (true, "b9d44121abc4f63ce4b7b3edf7ba59d4d1e2bc76de2d8a3286182b80d11cf589"), looks := false }, kinds := [], alts := [], laidByText := true, laidKinds := [.data], laidTests := true, laidLooks := .later }
def FnExactCuspOfFractionUptoCardSaid : Prop := Claim7.holds Tryd.pinned (.plain (OpenSpec.upto fnExactCuspOfFractionSpec)) fnExactCuspOfFractionUptoCard
end Rows
end Go.Proofs.YtajfjfgpiggekaaDoor
