/-
  DERIVED. GIVEN WITH THE SEED: THE CARDS: each row of YtamibhpaamhjmaaDoorRows.lean that lists a variable, with what it lists TIED to the program's text (the seventh form; the later family's looks); each row that meets fmt, with fmt's text TOLD by the authors' own Lean function (tested against real Go, not proved from fmt's source: count such statements apart). THE CARD IS WHAT COUNTS. Prove the row's statement (the work); the ties are given (YtamibhpaamhjmaaDoorTie.lean); close each card by the builder's one call (the guide's Derived/Test/ToyasCard.lean, 'card_holds'). Laid BY PROGRAM, IN A SANDBOX (cutbox-door.mjs). By AI agents, Wed Nov 11 2026. No macro, syntax, notation, axiom, sorry.
-/
import Derived.Test.YtamibhpaamhjmaaDoorRows
import GoSem.ClaimSeven
namespace Go.Proofs.YtamibhpaamhjmaaDoor
namespace Rows

/-- THE TIED CARD OF 'laws.FnExactProductOf'. -/
def fnExactProductOfCard : Claim7 := { stood := { row := fnExactProductOfRow, standIns := [], harness := (true, "5cfd2b2145dcfa5620f17b7506b89f52fd5a8f2b01cdcb446bf49bb983c66d7d"), looks := false }, kinds := [], alts := [], laidByText := true, laidKinds := [.data], laidTests := true, laidLooks := .later }
def FnExactProductOfCardSaid : Prop := Claim7.holds Tryd.pinned (.plain (OpenSpec.ofChange fnExactProductOfSpec)) fnExactProductOfCard

/-- THE TIED CARD OF 'laws.FnExactPowerOf'. -/
def fnExactPowerOfCard : Claim7 := { stood := { row := fnExactPowerOfRow, standIns := [], harness := (true, "5cfd2b2145dcfa5620f17b7506b89f52fd5a8f2b01cdcb446bf49bb983c66d7d"), looks := false }, kinds := [], alts := [], laidByText := true, laidKinds := [.data], laidTests := true, laidLooks := .later }
def FnExactPowerOfCardSaid : Prop := Claim7.holds Tryd.pinned (.plain (OpenSpec.ofChange fnExactPowerOfSpec)) fnExactPowerOfCard

/-- THE TIED CARD OF 'laws.FnExactKindOf'. -/
def fnExactKindOfCard : Claim7 := { stood := { row := fnExactKindOfRow, standIns := [], harness := (true, "5cfd2b2145dcfa5620f17b7506b89f52fd5a8f2b01cdcb446bf49bb983c66d7d"), looks := false }, kinds := [], alts := [], laidByText := true, laidKinds := [.data], laidTests := true, laidLooks := .later }
def FnExactKindOfCardSaid : Prop := Claim7.holds Tryd.pinned (.plain (OpenSpec.ofChange fnExactKindOfSpec)) fnExactKindOfCard

/-- THE TIED CARD OF 'laws.FnExactOrderOf'. -/
def fnExactOrderOfCard : Claim7 := { stood := { row := fnExactOrderOfRow, standIns := [], harness := (true, "5cfd2b2145dcfa5620f17b7506b89f52fd5a8f2b01cdcb446bf49bb983c66d7d"), looks := false }, kinds := [], alts := [], laidByText := true, laidKinds := [.data], laidTests := true, laidLooks := .later }
def FnExactOrderOfCardSaid : Prop := Claim7.holds Tryd.pinned (.plain (OpenSpec.ofChange fnExactOrderOfSpec)) fnExactOrderOfCard

/-- THE TIED CARD OF 'laws.FnExactConjugateBy'. -/
def fnExactConjugateByCard : Claim7 := { stood := { row := fnExactConjugateByRow, standIns := [], harness := (true, "5cfd2b2145dcfa5620f17b7506b89f52fd5a8f2b01cdcb446bf49bb983c66d7d"), looks := false }, kinds := [], alts := [], laidByText := true, laidKinds := [.data], laidTests := true, laidLooks := .later }
def FnExactConjugateByCardSaid : Prop := Claim7.holds Tryd.pinned (.plain (OpenSpec.ofChange fnExactConjugateBySpec)) fnExactConjugateByCard

/-- THE TIED CARD OF 'laws.FnExactCommutatorOf'. -/
def fnExactCommutatorOfCard : Claim7 := { stood := { row := fnExactCommutatorOfRow, standIns := [], harness := (true, "5cfd2b2145dcfa5620f17b7506b89f52fd5a8f2b01cdcb446bf49bb983c66d7d"), looks := false }, kinds := [], alts := [], laidByText := true, laidKinds := [.data], laidTests := true, laidLooks := .later }
def FnExactCommutatorOfCardSaid : Prop := Claim7.holds Tryd.pinned (.plain (OpenSpec.ofChange fnExactCommutatorOfSpec)) fnExactCommutatorOfCard

/-- THE SECOND FORM's CARD OF 'laws.FnExactProductOf'. -/
def fnExactProductOfUptoCard : Claim7 := { stood := { row := fnExactProductOfUptoRow, standIns := [], harness := (true, "5cfd2b2145dcfa5620f17b7506b89f52fd5a8f2b01cdcb446bf49bb983c66d7d"), looks := false }, kinds := [], alts := [], laidByText := true, laidKinds := [.data], laidTests := true, laidLooks := .later }
def FnExactProductOfUptoCardSaid : Prop := Claim7.holds Tryd.pinned (.plain (OpenSpec.upto fnExactProductOfSpec)) fnExactProductOfUptoCard

/-- THE SECOND FORM's CARD OF 'laws.FnExactPowerOf'. -/
def fnExactPowerOfUptoCard : Claim7 := { stood := { row := fnExactPowerOfUptoRow, standIns := [], harness := (true, "5cfd2b2145dcfa5620f17b7506b89f52fd5a8f2b01cdcb446bf49bb983c66d7d"), looks := false }, kinds := [], alts := [], laidByText := true, laidKinds := [.data], laidTests := true, laidLooks := .later }
def FnExactPowerOfUptoCardSaid : Prop := Claim7.holds Tryd.pinned (.plain (OpenSpec.upto fnExactPowerOfSpec)) fnExactPowerOfUptoCard

/-- THE SECOND FORM's CARD OF 'laws.FnExactKindOf'. -/
def fnExactKindOfUptoCard : Claim7 := { stood := { row := fnExactKindOfUptoRow, standIns := [], harness := (true, "5cfd2b2145dcfa5620f17b7506b89f52fd5a8f2b01cdcb446bf49bb983c66d7d"), looks := false }, kinds := [], alts := [], laidByText := true, laidKinds := [.data], laidTests := true, laidLooks := .later }
def FnExactKindOfUptoCardSaid : Prop := Claim7.holds Tryd.pinned (.plain (OpenSpec.upto fnExactKindOfSpec)) fnExactKindOfUptoCard

/-- THE SECOND FORM's CARD OF 'laws.FnExactOrderOf'. -/
def fnExactOrderOfUptoCard : Claim7 := { stood := { row := fnExactOrderOfUptoRow, standIns := [], harness := (true, "5cfd2b2145dcfa5620f17b7506b89f52fd5a8f2b01cdcb446bf49bb983c66d7d"), looks := false }, kinds := [], alts := [], laidByText := true, laidKinds := [.data], laidTests := true, laidLooks := .later }
def FnExactOrderOfUptoCardSaid : Prop := Claim7.holds Tryd.pinned (.plain (OpenSpec.upto fnExactOrderOfSpec)) fnExactOrderOfUptoCard

/-- THE SECOND FORM's CARD OF 'laws.FnExactConjugateBy'. -/
def fnExactConjugateByUptoCard : Claim7 := { stood := { row := fnExactConjugateByUptoRow, standIns := [], harness := (true, "5cfd2b2145dcfa5620f17b7506b89f52fd5a8f2b01cdcb446bf49bb983c66d7d"), looks := false }, kinds := [], alts := [], laidByText := true, laidKinds := [.data], laidTests := true, laidLooks := .later }
def FnExactConjugateByUptoCardSaid : Prop := Claim7.holds Tryd.pinned (.plain (OpenSpec.upto fnExactConjugateBySpec)) fnExactConjugateByUptoCard

/-- THE SECOND FORM's CARD OF 'laws.FnExactCommutatorOf'. -/
def fnExactCommutatorOfUptoCard : Claim7 := { stood := { row := fnExactCommutatorOfUptoRow, standIns := [], harness := (true, "5cfd2b2145dcfa5620f17b7506b89f52fd5a8f2b01cdcb446bf49bb983c66d7d"), looks := false }, kinds := [], alts := [], laidByText := true, laidKinds := [.data], laidTests := true, laidLooks := .later }
def FnExactCommutatorOfUptoCardSaid : Prop := Claim7.holds Tryd.pinned (.plain (OpenSpec.upto fnExactCommutatorOfSpec)) fnExactCommutatorOfUptoCard
end Rows
end Go.Proofs.YtamibhpaamhjmaaDoor
