/-
  DERIVED. GIVEN WITH THE SEED: THE CARDS: each row of YtfpgdbdgglbleaaDoorRows.lean that lists a variable, with what it lists TIED to the program's text (the seventh form; the later family's looks); each row that meets fmt, with fmt's text TOLD by the authors' own Lean function (tested against real Go, not proved from fmt's source: count such statements apart). THE CARD IS WHAT COUNTS. Prove the row's statement (the work); the ties are given (YtfpgdbdgglbleaaDoorTie.lean); close each card by the builder's one call (the guide's Derived/Test/ToyasCard.lean, 'card_holds'). Laid BY PROGRAM, IN A SANDBOX (cutbox-door.mjs). By AI agents, Wed Nov 11 2026. No macro, syntax, notation, axiom, sorry.
-/
import Derived.Test.YtfpgdbdgglbleaaDoorRows
import GoSem.ClaimSeven
namespace Go.Proofs.YtfpgdbdgglbleaaDoor
namespace Rows

/-- THE TIED CARD OF 'laws.FnExactFormOfMatrix'. -/
def fnExactFormOfMatrixCard : Claim7 := { stood := { row := fnExactFormOfMatrixRow, standIns := [], harness := (true, "35571133271cc3c98c41ef7d6fa4a594aa722f7e1ac180cb851053be51597c6b"), looks := false }, kinds := [], alts := [], laidByText := true, laidKinds := [.data], laidTests := true, laidLooks := .later }
def FnExactFormOfMatrixCardSaid : Prop := Claim7.holds Tryd.pinned (.plain (OpenSpec.ofChange fnExactFormOfMatrixSpec)) fnExactFormOfMatrixCard

/-- THE TIED CARD OF 'laws.FnExactReduceForm'. -/
def fnExactReduceFormCard : Claim7 := { stood := { row := fnExactReduceFormRow, standIns := [], harness := (true, "35571133271cc3c98c41ef7d6fa4a594aa722f7e1ac180cb851053be51597c6b"), looks := false }, kinds := [], alts := [], laidByText := true, laidKinds := [.data, .data], laidTests := true, laidLooks := .later }
def FnExactReduceFormCardSaid : Prop := Claim7.holds Tryd.pinned (.plain (OpenSpec.ofChange fnExactReduceFormSpec)) fnExactReduceFormCard

/-- THE SECOND FORM's CARD OF 'laws.FnExactFormOfMatrix'. -/
def fnExactFormOfMatrixUptoCard : Claim7 := { stood := { row := fnExactFormOfMatrixUptoRow, standIns := [], harness := (true, "35571133271cc3c98c41ef7d6fa4a594aa722f7e1ac180cb851053be51597c6b"), looks := false }, kinds := [], alts := [], laidByText := true, laidKinds := [.data], laidTests := true, laidLooks := .later }
def FnExactFormOfMatrixUptoCardSaid : Prop := Claim7.holds Tryd.pinned (.plain (OpenSpec.upto fnExactFormOfMatrixSpec)) fnExactFormOfMatrixUptoCard

/-- THE SECOND FORM's CARD OF 'laws.FnExactReduceForm'. -/
def fnExactReduceFormUptoCard : Claim7 := { stood := { row := fnExactReduceFormUptoRow, standIns := [], harness := (true, "35571133271cc3c98c41ef7d6fa4a594aa722f7e1ac180cb851053be51597c6b"), looks := false }, kinds := [], alts := [], laidByText := true, laidKinds := [.data, .data], laidTests := true, laidLooks := .later }
def FnExactReduceFormUptoCardSaid : Prop := Claim7.holds Tryd.pinned (.plain (OpenSpec.upto fnExactReduceFormSpec)) fnExactReduceFormUptoCard
end Rows
end Go.Proofs.YtfpgdbdgglbleaaDoor
