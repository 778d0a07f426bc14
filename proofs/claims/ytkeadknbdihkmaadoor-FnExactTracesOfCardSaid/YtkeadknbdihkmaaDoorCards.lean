/-
  DERIVED. GIVEN WITH THE SEED: THE CARDS: each row of YtkeadknbdihkmaaDoorRows.lean that lists a variable, with what it lists TIED to the program's text (the seventh form; the later family's looks); each row that meets fmt, with fmt's text TOLD by the authors' own Lean function (tested against real Go, not proved from fmt's source: count such statements apart). THE CARD IS WHAT COUNTS. Prove the row's statement (the work); the ties are given (YtkeadknbdihkmaaDoorTie.lean); close each card by the builder's one call (the guide's Derived/Test/ToyasCard.lean, 'card_holds'). Laid BY PROGRAM, IN A SANDBOX (cutbox-door.mjs). By AI agents, Wed Nov 11 2026. No macro, syntax, notation, axiom, sorry.
-/
import Derived.Test.YtkeadknbdihkmaaDoorRows
import GoSem.ClaimSeven
namespace Go.Proofs.YtkeadknbdihkmaaDoor
namespace Rows

/-- THE TIED CARD OF 'laws.FnExactDownPath'. -/
def fnExactDownPathCard : Claim7 := { stood := { row := fnExactDownPathRow, standIns := [], harness := (true, "9adcc6de04cee2c8f169d4877070482dde07d4282dc2cceb843a7614601bce49"), looks := false }, kinds := [], alts := [], laidByText := true, laidKinds := [.data], laidTests := true, laidLooks := .later }
def FnExactDownPathCardSaid : Prop := Claim7.holds Tryd.pinned (.plain (OpenSpec.ofChange fnExactDownPathSpec)) fnExactDownPathCard

/-- THE TIED CARD OF 'laws.FnExactTracesOf'. -/
def fnExactTracesOfCard : Claim7 := { stood := { row := fnExactTracesOfRow, standIns := [], harness := (true, "9adcc6de04cee2c8f169d4877070482dde07d4282dc2cceb843a7614601bce49"), looks := false }, kinds := [], alts := [], laidByText := true, laidKinds := [.data], laidTests := true, laidLooks := .later }
def FnExactTracesOfCardSaid : Prop := Claim7.holds Tryd.pinned (.plain (OpenSpec.ofChange fnExactTracesOfSpec)) fnExactTracesOfCard

/-- THE TIED CARD OF 'laws.FnExactMatrixOfLetters'. -/
def fnExactMatrixOfLettersCard : Claim7 := { stood := { row := fnExactMatrixOfLettersRow, standIns := [], harness := (true, "9adcc6de04cee2c8f169d4877070482dde07d4282dc2cceb843a7614601bce49"), looks := false }, kinds := [], alts := [], laidByText := true, laidKinds := [.data], laidTests := true, laidLooks := .later }
def FnExactMatrixOfLettersCardSaid : Prop := Claim7.holds Tryd.pinned (.plain (OpenSpec.ofChange fnExactMatrixOfLettersSpec)) fnExactMatrixOfLettersCard

/-- THE TIED CARD OF 'laws.FnExactNumberOfPath'. -/
def fnExactNumberOfPathCard : Claim7 := { stood := { row := fnExactNumberOfPathRow, standIns := [], harness := (true, "9adcc6de04cee2c8f169d4877070482dde07d4282dc2cceb843a7614601bce49"), looks := false }, kinds := [], alts := [], laidByText := true, laidKinds := [.data], laidTests := true, laidLooks := .later }
def FnExactNumberOfPathCardSaid : Prop := Claim7.holds Tryd.pinned (.plain (OpenSpec.ofChange fnExactNumberOfPathSpec)) fnExactNumberOfPathCard

/-- THE TIED CARD OF 'laws.FnExactTripleOfPath'. -/
def fnExactTripleOfPathCard : Claim7 := { stood := { row := fnExactTripleOfPathRow, standIns := [], harness := (true, "9adcc6de04cee2c8f169d4877070482dde07d4282dc2cceb843a7614601bce49"), looks := false }, kinds := [], alts := [], laidByText := true, laidKinds := [.data], laidTests := true, laidLooks := .later }
def FnExactTripleOfPathCardSaid : Prop := Claim7.holds Tryd.pinned (.plain (OpenSpec.ofChange fnExactTripleOfPathSpec)) fnExactTripleOfPathCard

/-- THE TIED CARD OF 'laws.FnExactMatrixOfWord'. -/
def fnExactMatrixOfWordCard : Claim7 := { stood := { row := fnExactMatrixOfWordRow, standIns := [], harness := (true, "9adcc6de04cee2c8f169d4877070482dde07d4282dc2cceb843a7614601bce49"), looks := false }, kinds := [], alts := [], laidByText := true, laidKinds := [.data, .data], laidTests := true, laidLooks := .later }
def FnExactMatrixOfWordCardSaid : Prop := Claim7.holds Tryd.pinned (.plain (OpenSpec.ofChange fnExactMatrixOfWordSpec)) fnExactMatrixOfWordCard

/-- THE TIED CARD OF 'laws.FnExactMatrixOfFree'. -/
def fnExactMatrixOfFreeCard : Claim7 := { stood := { row := fnExactMatrixOfFreeRow, standIns := [], harness := (true, "9adcc6de04cee2c8f169d4877070482dde07d4282dc2cceb843a7614601bce49"), looks := false }, kinds := [], alts := [], laidByText := true, laidKinds := [.data, .data], laidTests := true, laidLooks := .later }
def FnExactMatrixOfFreeCardSaid : Prop := Claim7.holds Tryd.pinned (.plain (OpenSpec.ofChange fnExactMatrixOfFreeSpec)) fnExactMatrixOfFreeCard

/-- THE TIED CARD OF 'laws.FnExactFractionOfPath'. -/
def fnExactFractionOfPathCard : Claim7 := { stood := { row := fnExactFractionOfPathRow, standIns := [], harness := (true, "9adcc6de04cee2c8f169d4877070482dde07d4282dc2cceb843a7614601bce49"), looks := false }, kinds := [], alts := [], laidByText := true, laidKinds := [.data], laidTests := true, laidLooks := .later }
def FnExactFractionOfPathCardSaid : Prop := Claim7.holds Tryd.pinned (.plain (OpenSpec.ofChange fnExactFractionOfPathSpec)) fnExactFractionOfPathCard

/-- THE SECOND FORM's CARD OF 'laws.FnExactDownPath'. -/
def fnExactDownPathUptoCard : Claim7 := { stood := { row := fnExactDownPathUptoRow, standIns := [], harness := (true, "9adcc6de04cee2c8f169d4877070482dde07d4282dc2cceb843a7614601bce49"), looks := false }, kinds := [], alts := [], laidByText := true, laidKinds := [.data], laidTests := true, laidLooks := .later }
def FnExactDownPathUptoCardSaid : Prop := Claim7.holds Tryd.pinned (.plain (OpenSpec.upto fnExactDownPathSpec)) fnExactDownPathUptoCard

/-- THE SECOND FORM's CARD OF 'laws.FnExactTracesOf'. -/
def fnExactTracesOfUptoCard : Claim7 := { stood := { row := fnExactTracesOfUptoRow, standIns := [], harness := (true, "9adcc6de04cee2c8f169d4877070482dde07d4282dc2cceb843a7614601bce49"), looks := false }, kinds := [], alts := [], laidByText := true, laidKinds := [.data], laidTests := true, laidLooks := .later }
def FnExactTracesOfUptoCardSaid : Prop := Claim7.holds Tryd.pinned (.plain (OpenSpec.upto fnExactTracesOfSpec)) fnExactTracesOfUptoCard

/-- THE SECOND FORM's CARD OF 'laws.FnExactMatrixOfLetters'. -/
def fnExactMatrixOfLettersUptoCard : Claim7 := { stood := { row := fnExactMatrixOfLettersUptoRow, standIns := [], harness := (true, "9adcc6de04cee2c8f169d4877070482dde07d4282dc2cceb843a7614601bce49"), looks := false }, kinds := [], alts := [], laidByText := true, laidKinds := [.data], laidTests := true, laidLooks := .later }
def FnExactMatrixOfLettersUptoCardSaid : Prop := Claim7.holds Tryd.pinned (.plain (OpenSpec.upto fnExactMatrixOfLettersSpec)) fnExactMatrixOfLettersUptoCard

/-- THE SECOND FORM's CARD OF 'laws.FnExactNumberOfPath'. -/
def fnExactNumberOfPathUptoCard : Claim7 := { stood := { row := fnExactNumberOfPathUptoRow, standIns := [], harness := (true, "9adcc6de04cee2c8f169d4877070482dde07d4282dc2cceb843a7614601bce49"), looks := false }, kinds := [], alts := [], laidByText := true, laidKinds := [.data], laidTests := true, laidLooks := .later }
def FnExactNumberOfPathUptoCardSaid : Prop := Claim7.holds Tryd.pinned (.plain (OpenSpec.upto fnExactNumberOfPathSpec)) fnExactNumberOfPathUptoCard

/-- THE SECOND FORM's CARD OF 'laws.FnExactTripleOfPath'. -/
def fnExactTripleOfPathUptoCard : Claim7 := { stood := { row := fnExactTripleOfPathUptoRow, standIns := [], harness := (true, "9adcc6de04cee2c8f169d4877070482dde07d4282dc2cceb843a7614601bce49"), looks := false }, kinds := [], alts := [], laidByText := true, laidKinds := [.data], laidTests := true, laidLooks := .later }
def FnExactTripleOfPathUptoCardSaid : Prop := Claim7.holds Tryd.pinned (.plain (OpenSpec.upto fnExactTripleOfPathSpec)) fnExactTripleOfPathUptoCard

/-- THE SECOND FORM's CARD OF 'laws.FnExactMatrixOfWord'. -/
def fnExactMatrixOfWordUptoCard : Claim7 := { stood := { row := fnExactMatrixOfWordUptoRow, standIns := [], harness := (true, "9adcc6de04cee2c8f169d4877070482dde07d4282dc2cceb843a7614601bce49"), looks := false }, kinds := [], alts := [], laidByText := true, laidKinds := [.data, .data], laidTests := true, laidLooks := .later }
def FnExactMatrixOfWordUptoCardSaid : Prop := Claim7.holds Tryd.pinned (.plain (OpenSpec.upto fnExactMatrixOfWordSpec)) fnExactMatrixOfWordUptoCard

/-- THE SECOND FORM's CARD OF 'laws.FnExactMatrixOfFree'. -/
def fnExactMatrixOfFreeUptoCard : Claim7 := { stood := { row := fnExactMatrixOfFreeUptoRow, standIns := [], harness := (true, "9adcc6de04cee2c8f169d4877070482dde07d4282dc2cceb843a7614601bce49"), looks := false }, kinds := [], alts := [], laidByText := true, laidKinds := [.data, .data], laidTests := true, laidLooks := .later }
def FnExactMatrixOfFreeUptoCardSaid : Prop := Claim7.holds Tryd.pinned (.plain (OpenSpec.upto fnExactMatrixOfFreeSpec)) fnExactMatrixOfFreeUptoCard

/-- THE SECOND FORM's CARD OF 'laws.FnExactFractionOfPath'. -/
def fnExactFractionOfPathUptoCard : Claim7 := { stood := { row := fnExactFractionOfPathUptoRow, standIns := [], harness := (true, "9adcc6de04cee2c8f169d4877070482dde07d4282dc2cceb843a7614601bce49"), looks := false }, kinds := [], alts := [], laidByText := true, laidKinds := [.data], laidTests := true, laidLooks := .later }
def FnExactFractionOfPathUptoCardSaid : Prop := Claim7.holds Tryd.pinned (.plain (OpenSpec.upto fnExactFractionOfPathSpec)) fnExactFractionOfPathUptoCard
end Rows
end Go.Proofs.YtkeadknbdihkmaaDoor
