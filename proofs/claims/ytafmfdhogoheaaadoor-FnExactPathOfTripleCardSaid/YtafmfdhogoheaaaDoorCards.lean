/-
  DERIVED. GIVEN WITH THE SEED: THE CARDS: each row of YtafmfdhogoheaaaDoorRows.lean that lists a variable, with what it lists TIED to the program's text (the seventh form; the later family's looks); each row that meets fmt, with fmt's text TOLD by the authors' own Lean function (tested against real Go, not proved from fmt's source: count such statements apart). THE CARD IS WHAT COUNTS. Prove the row's statement (the work); the ties are given (YtafmfdhogoheaaaDoorTie.lean); close each card by the builder's one call (the guide's Derived/Test/ToyasCard.lean, 'card_holds'). Laid BY PROGRAM, IN A SANDBOX (cutbox-door.mjs). By AI agents, Wed Nov 11 2026. No macro, syntax, notation, axiom, sorry.
-/
import Derived.Test.YtafmfdhogoheaaaDoorRows
import GoSem.ClaimSeven
namespace Go.Proofs.YtafmfdhogoheaaaDoor
namespace Rows

/-- THE TIED CARD OF 'laws.FnExactTriplesBelow'. -/
def fnExactTriplesBelowCard : Claim7 := { stood := { row := fnExactTriplesBelowRow, standIns := [], harness := (true, "885a4db44e1bcbda9b6e5e0a4995d49d723cad6c3ef3d5a6b30e69d3bf39ce4a"), looks := false }, kinds := [], alts := [], laidByText := true, laidKinds := [.data], laidTests := true, laidLooks := .later }
def FnExactTriplesBelowCardSaid : Prop := Claim7.holds Tryd.pinned (.plain (OpenSpec.ofChange fnExactTriplesBelowSpec)) fnExactTriplesBelowCard

/-- THE TIED CARD OF 'laws.FnExactMarkovNumbers'. -/
def fnExactMarkovNumbersCard : Claim7 := { stood := { row := fnExactMarkovNumbersRow, standIns := [], harness := (true, "885a4db44e1bcbda9b6e5e0a4995d49d723cad6c3ef3d5a6b30e69d3bf39ce4a"), looks := false }, kinds := [], alts := [], laidByText := true, laidKinds := [.data], laidTests := true, laidLooks := .later }
def FnExactMarkovNumbersCardSaid : Prop := Claim7.holds Tryd.pinned (.plain (OpenSpec.ofChange fnExactMarkovNumbersSpec)) fnExactMarkovNumbersCard

/-- THE TIED CARD OF 'laws.FnExactPathOfTriple'. -/
def fnExactPathOfTripleCard : Claim7 := { stood := { row := fnExactPathOfTripleRow, standIns := [], harness := (true, "885a4db44e1bcbda9b6e5e0a4995d49d723cad6c3ef3d5a6b30e69d3bf39ce4a"), looks := false }, kinds := [], alts := [], laidByText := true, laidKinds := [.data], laidTests := true, laidLooks := .later }
def FnExactPathOfTripleCardSaid : Prop := Claim7.holds Tryd.pinned (.plain (OpenSpec.ofChange fnExactPathOfTripleSpec)) fnExactPathOfTripleCard

/-- THE TIED CARD OF 'laws.FnMarkov'. -/
def fnMarkovCard : Claim7 := { stood := { row := fnMarkovRow, standIns := [], harness := (true, "885a4db44e1bcbda9b6e5e0a4995d49d723cad6c3ef3d5a6b30e69d3bf39ce4a"), looks := false }, kinds := [], alts := [], laidByText := true, laidKinds := [.data], laidTests := true, laidLooks := .later }
def FnMarkovCardSaid : Prop := Claim7.holds Tryd.pinned (.plain (OpenSpec.ofChange fnMarkovSpec)) fnMarkovCard

/-- THE TIED CARD OF 'laws.FnMarkovWords'. -/
def fnMarkovWordsCard : Claim7 := { stood := { row := fnMarkovWordsRow, standIns := [], harness := (true, "885a4db44e1bcbda9b6e5e0a4995d49d723cad6c3ef3d5a6b30e69d3bf39ce4a"), looks := false }, kinds := [], alts := [], laidByText := true, laidKinds := [.data, .data], laidTests := true, laidLooks := .later }
def FnMarkovWordsCardSaid : Prop := Claim7.holds Tryd.pinned (.plain (OpenSpec.ofChange fnMarkovWordsSpec)) fnMarkovWordsCard

/-- THE SECOND FORM's CARD OF 'laws.FnExactTriplesBelow'. -/
def fnExactTriplesBelowUptoCard : Claim7 := { stood := { row := fnExactTriplesBelowUptoRow, standIns := [], harness := (true, "885a4db44e1bcbda9b6e5e0a4995d49d723cad6c3ef3d5a6b30e69d3bf39ce4a"), looks := false }, kinds := [], alts := [], laidByText := true, laidKinds := [.data], laidTests := true, laidLooks := .later }
def FnExactTriplesBelowUptoCardSaid : Prop := Claim7.holds Tryd.pinned (.plain (OpenSpec.upto fnExactTriplesBelowSpec)) fnExactTriplesBelowUptoCard

/-- THE SECOND FORM's CARD OF 'laws.FnExactMarkovNumbers'. -/
def fnExactMarkovNumbersUptoCard : Claim7 := { stood := { row := fnExactMarkovNumbersUptoRow, standIns := [], harness := (true, "885a4db44e1bcbda9b6e5e0a4995d49d723cad6c3ef3d5a6b30e69d3bf39ce4a"), looks := false }, kinds := [], alts := [], laidByText := true, laidKinds := [.data], laidTests := true, laidLooks := .later }
def FnExactMarkovNumbersUptoCardSaid : Prop := Claim7.holds Tryd.pinned (.plain (OpenSpec.upto fnExactMarkovNumbersSpec)) fnExactMarkovNumbersUptoCard

/-- THE SECOND FORM's CARD OF 'laws.FnExactPathOfTriple'. -/
def fnExactPathOfTripleUptoCard : Claim7 := { stood := { row := fnExactPathOfTripleUptoRow, standIns := [], harness := (true, "885a4db44e1bcbda9b6e5e0a4995d49d723cad6c3ef3d5a6b30e69d3bf39ce4a"), looks := false }, kinds := [], alts := [], laidByText := true, laidKinds := [.data], laidTests := true, laidLooks := .later }
def FnExactPathOfTripleUptoCardSaid : Prop := Claim7.holds Tryd.pinned (.plain (OpenSpec.upto fnExactPathOfTripleSpec)) fnExactPathOfTripleUptoCard

/-- THE SECOND FORM's CARD OF 'laws.FnMarkov'. -/
def fnMarkovUptoCard : Claim7 := { stood := { row := fnMarkovUptoRow, standIns := [], harness := (true, "885a4db44e1bcbda9b6e5e0a4995d49d723cad6c3ef3d5a6b30e69d3bf39ce4a"), looks := false }, kinds := [], alts := [], laidByText := true, laidKinds := [.data], laidTests := true, laidLooks := .later }
def FnMarkovUptoCardSaid : Prop := Claim7.holds Tryd.pinned (.plain (OpenSpec.upto fnMarkovSpec)) fnMarkovUptoCard

/-- THE SECOND FORM's CARD OF 'laws.FnMarkovWords'. -/
def fnMarkovWordsUptoCard : Claim7 := { stood := { row := fnMarkovWordsUptoRow, standIns := [], harness := (true, "885a4db44e1bcbda9b6e5e0a4995d49d723cad6c3ef3d5a6b30e69d3bf39ce4a"), looks := false }, kinds := [], alts := [], laidByText := true, laidKinds := [.data, .data], laidTests := true, laidLooks := .later }
def FnMarkovWordsUptoCardSaid : Prop := Claim7.holds Tryd.pinned (.plain (OpenSpec.upto fnMarkovWordsSpec)) fnMarkovWordsUptoCard
end Rows
end Go.Proofs.YtafmfdhogoheaaaDoor
