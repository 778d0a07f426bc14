/-
  DERIVED. GIVEN WITH THE SEED: THE CARDS: each row of YthappdcoomgbpaaDoorRows.lean that lists a variable, with what it lists TIED to the program's text (the seventh form; the later family's looks); each row that meets fmt, with fmt's text TOLD by the authors' own Lean function (tested against real Go, not proved from fmt's source: count such statements apart). THE CARD IS WHAT COUNTS. Prove the row's statement (the work); the ties are given (YthappdcoomgbpaaDoorTie.lean); close each card by the builder's one call (the guide's Derived/Test/ToyasCard.lean, 'card_holds'). Laid BY PROGRAM, IN A SANDBOX (cutbox-door.mjs). By AI agents, Wed Nov 11 2026. No macro, syntax, notation, axiom, sorry.
-/
import Derived.Test.YthappdcoomgbpaaDoorRows
import GoSem.ClaimSeven
namespace Go.Proofs.YthappdcoomgbpaaDoor
namespace Rows

/-- THE TIED CARD OF 'laws.FnExactNamedMatrix'. -/
def fnExactNamedMatrixCard : Claim7 := { stood := { row := fnExactNamedMatrixRow, standIns := [], harness := (true, "8927937cc3cf77d1d266b94dfe1e7f8a8b43491b1e1b217c5770600c2136c77c"), looks := true }, kinds := [], alts := [], laidByText := true, laidKinds := [.data, .data], laidTests := true, laidLooks := .later }
def FnExactNamedMatrixCardSaid : Prop := Claim7.holds Tryd.pinned (.plain (OpenSpec.ofChange fnExactNamedMatrixSpec)) fnExactNamedMatrixCard

/-- THE TIED CARD OF 'laws.FnExactParentsOf'. -/
def fnExactParentsOfCard : Claim7 := { stood := { row := fnExactParentsOfRow, standIns := [], harness := (true, "8927937cc3cf77d1d266b94dfe1e7f8a8b43491b1e1b217c5770600c2136c77c"), looks := true }, kinds := [], alts := [], laidByText := true, laidKinds := [.data, .sentinel], laidTests := true, laidLooks := .later }
def FnExactParentsOfCardSaid : Prop := Claim7.holds Tryd.pinned (.plain (OpenSpec.ofChange fnExactParentsOfSpec)) fnExactParentsOfCard

/-- THE TIED CARD OF 'laws.FnExactOrderOf'. -/
def fnExactOrderOfCard : Claim7 := { stood := { row := fnExactOrderOfRow, standIns := [], harness := (true, "8927937cc3cf77d1d266b94dfe1e7f8a8b43491b1e1b217c5770600c2136c77c"), looks := true }, kinds := [], alts := [], laidByText := true, laidKinds := [.data], laidTests := true, laidLooks := .later }
def FnExactOrderOfCardSaid : Prop := Claim7.holds Tryd.pinned (.plain (OpenSpec.ofChange fnExactOrderOfSpec)) fnExactOrderOfCard

/-- THE TIED CARD OF 'laws.FnExactTierOf'. -/
def fnExactTierOfCard : Claim7 := { stood := { row := fnExactTierOfRow, standIns := [], harness := (true, "8927937cc3cf77d1d266b94dfe1e7f8a8b43491b1e1b217c5770600c2136c77c"), looks := true }, kinds := [], alts := [], laidByText := true, laidKinds := [.data], laidTests := true, laidLooks := .later }
def FnExactTierOfCardSaid : Prop := Claim7.holds Tryd.pinned (.plain (OpenSpec.ofChange fnExactTierOfSpec)) fnExactTierOfCard

/-- THE TIED CARD OF 'laws.FnExactFractionOfPath'. -/
def fnExactFractionOfPathCard : Claim7 := { stood := { row := fnExactFractionOfPathRow, standIns := [], harness := (true, "8927937cc3cf77d1d266b94dfe1e7f8a8b43491b1e1b217c5770600c2136c77c"), looks := true }, kinds := [], alts := [], laidByText := true, laidKinds := [.data], laidTests := true, laidLooks := .later }
def FnExactFractionOfPathCardSaid : Prop := Claim7.holds Tryd.pinned (.plain (OpenSpec.ofChange fnExactFractionOfPathSpec)) fnExactFractionOfPathCard

/-- THE TIED CARD OF 'laws.FnExactMatrixOfFree'. -/
def fnExactMatrixOfFreeCard : Claim7 := { stood := { row := fnExactMatrixOfFreeRow, standIns := [], harness := (true, "8927937cc3cf77d1d266b94dfe1e7f8a8b43491b1e1b217c5770600c2136c77c"), looks := true }, kinds := [], alts := [], laidByText := true, laidKinds := [.data, .data], laidTests := true, laidLooks := .later }
def FnExactMatrixOfFreeCardSaid : Prop := Claim7.holds Tryd.pinned (.plain (OpenSpec.ofChange fnExactMatrixOfFreeSpec)) fnExactMatrixOfFreeCard

/-- THE SECOND FORM's CARD OF 'laws.FnExactNamedMatrix'. -/
def fnExactNamedMatrixUptoCard : Claim7 := { stood := { row := fnExactNamedMatrixUptoRow, standIns := [], harness := (true, "8927937cc3cf77d1d266b94dfe1e7f8a8b43491b1e1b217c5770600c2136c77c"), looks := true }, kinds := [], alts := [], laidByText := true, laidKinds := [.data, .data], laidTests := true, laidLooks := .later }
def FnExactNamedMatrixUptoCardSaid : Prop := Claim7.holds Tryd.pinned (.plain (OpenSpec.upto fnExactNamedMatrixSpec)) fnExactNamedMatrixUptoCard

/-- THE SECOND FORM's CARD OF 'laws.FnExactParentsOf'. -/
def fnExactParentsOfUptoCard : Claim7 := { stood := { row := fnExactParentsOfUptoRow, standIns := [], harness := (true, "8927937cc3cf77d1d266b94dfe1e7f8a8b43491b1e1b217c5770600c2136c77c"), looks := true }, kinds := [], alts := [], laidByText := true, laidKinds := [.data, .sentinel], laidTests := true, laidLooks := .later }
def FnExactParentsOfUptoCardSaid : Prop := Claim7.holds Tryd.pinned (.plain (OpenSpec.upto fnExactParentsOfSpec)) fnExactParentsOfUptoCard

/-- THE SECOND FORM's CARD OF 'laws.FnExactOrderOf'. -/
def fnExactOrderOfUptoCard : Claim7 := { stood := { row := fnExactOrderOfUptoRow, standIns := [], harness := (true, "8927937cc3cf77d1d266b94dfe1e7f8a8b43491b1e1b217c5770600c2136c77c"), looks := true }, kinds := [], alts := [], laidByText := true, laidKinds := [.data], laidTests := true, laidLooks := .later }
def FnExactOrderOfUptoCardSaid : Prop := Claim7.holds Tryd.pinned (.plain (OpenSpec.upto fnExactOrderOfSpec)) fnExactOrderOfUptoCard

/-- THE SECOND FORM's CARD OF 'laws.FnExactTierOf'. -/
def fnExactTierOfUptoCard : Claim7 := { stood := { row := fnExactTierOfUptoRow, standIns := [], harness := (true, "8927937cc3cf77d1d266b94dfe1e7f8a8b43491b1e1b217c5770600c2136c77c"), looks := true }, kinds := [], alts := [], laidByText := true, laidKinds := [.data], laidTests := true, laidLooks := .later }
def FnExactTierOfUptoCardSaid : Prop := Claim7.holds Tryd.pinned (.plain (OpenSpec.upto fnExactTierOfSpec)) fnExactTierOfUptoCard

/-- THE SECOND FORM's CARD OF 'laws.FnExactFractionOfPath'. -/
def fnExactFractionOfPathUptoCard : Claim7 := { stood := { row := fnExactFractionOfPathUptoRow, standIns := [], harness := (true, "8927937cc3cf77d1d266b94dfe1e7f8a8b43491b1e1b217c5770600c2136c77c"), looks := true }, kinds := [], alts := [], laidByText := true, laidKinds := [.data], laidTests := true, laidLooks := .later }
def FnExactFractionOfPathUptoCardSaid : Prop := Claim7.holds Tryd.pinned (.plain (OpenSpec.upto fnExactFractionOfPathSpec)) fnExactFractionOfPathUptoCard

/-- THE SECOND FORM's CARD OF 'laws.FnExactMatrixOfFree'. -/
def fnExactMatrixOfFreeUptoCard : Claim7 := { stood := { row := fnExactMatrixOfFreeUptoRow, standIns := [], harness := (true, "8927937cc3cf77d1d266b94dfe1e7f8a8b43491b1e1b217c5770600c2136c77c"), looks := true }, kinds := [], alts := [], laidByText := true, laidKinds := [.data, .data], laidTests := true, laidLooks := .later }
def FnExactMatrixOfFreeUptoCardSaid : Prop := Claim7.holds Tryd.pinned (.plain (OpenSpec.upto fnExactMatrixOfFreeSpec)) fnExactMatrixOfFreeUptoCard
end Rows
end Go.Proofs.YthappdcoomgbpaaDoor
