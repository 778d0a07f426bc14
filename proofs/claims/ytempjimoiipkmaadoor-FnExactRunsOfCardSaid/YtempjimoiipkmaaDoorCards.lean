/-
  DERIVED. GIVEN WITH THE SEED: THE CARDS: each row of YtempjimoiipkmaaDoorRows.lean that lists a variable, with what it lists TIED to the program's text (the seventh form; the later family's looks); each row that meets fmt, with fmt's text TOLD by the authors' own Lean function (tested against real Go, not proved from fmt's source: count such statements apart). THE CARD IS WHAT COUNTS. Prove the row's statement (the work); the ties are given (YtempjimoiipkmaaDoorTie.lean); close each card by the builder's one call (the guide's Derived/Test/ToyasCard.lean, 'card_holds'). Laid BY PROGRAM, IN A SANDBOX (cutbox-door.mjs). By AI agents, Wed Nov 11 2026. No macro, syntax, notation, axiom, sorry.
-/
import Derived.Test.YtempjimoiipkmaaDoorRows
import GoSem.ClaimSeven
namespace Go.Proofs.YtempjimoiipkmaaDoor
namespace Rows

/-- THE TIED CARD OF 'laws.FnExactRunsOf'. -/
def fnExactRunsOfCard : Claim7 := { stood := { row := fnExactRunsOfRow, standIns := [], harness := (true, "fd4548ca524f751185f09d3b7364dd0bcfbe721188c01d663f7ad57c8a5acbd2"), looks := false }, kinds := [], alts := [], laidByText := true, laidKinds := [.data], laidTests := true, laidLooks := .later }
def FnExactRunsOfCardSaid : Prop := Claim7.holds Tryd.pinned (.plain (OpenSpec.ofChange fnExactRunsOfSpec)) fnExactRunsOfCard

/-- THE TIED CARD OF 'laws.FnExactMatrixOfRuns'. -/
def fnExactMatrixOfRunsCard : Claim7 := { stood := { row := fnExactMatrixOfRunsRow, standIns := [], harness := (true, "fd4548ca524f751185f09d3b7364dd0bcfbe721188c01d663f7ad57c8a5acbd2"), looks := false }, kinds := [], alts := [], laidByText := true, laidKinds := [.data], laidTests := true, laidLooks := .later }
def FnExactMatrixOfRunsCardSaid : Prop := Claim7.holds Tryd.pinned (.plain (OpenSpec.ofChange fnExactMatrixOfRunsSpec)) fnExactMatrixOfRunsCard

/-- THE TIED CARD OF 'laws.FnExactMatrixOfChain'. -/
def fnExactMatrixOfChainCard : Claim7 := { stood := { row := fnExactMatrixOfChainRow, standIns := [], harness := (true, "fd4548ca524f751185f09d3b7364dd0bcfbe721188c01d663f7ad57c8a5acbd2"), looks := false }, kinds := [], alts := [], laidByText := true, laidKinds := [.data, .data], laidTests := true, laidLooks := .later }
def FnExactMatrixOfChainCardSaid : Prop := Claim7.holds Tryd.pinned (.plain (OpenSpec.ofChange fnExactMatrixOfChainSpec)) fnExactMatrixOfChainCard

/-- THE TIED CARD OF 'laws.FnExactChainOf'. -/
def fnExactChainOfCard : Claim7 := { stood := { row := fnExactChainOfRow, standIns := [], harness := (true, "fd4548ca524f751185f09d3b7364dd0bcfbe721188c01d663f7ad57c8a5acbd2"), looks := false }, kinds := [], alts := [], laidByText := true, laidKinds := [.data], laidTests := true, laidLooks := .later }
def FnExactChainOfCardSaid : Prop := Claim7.holds Tryd.pinned (.plain (OpenSpec.ofChange fnExactChainOfSpec)) fnExactChainOfCard

/-- THE TIED CARD OF 'laws.FnExactPowerOf'. -/
def fnExactPowerOfCard : Claim7 := { stood := { row := fnExactPowerOfRow, standIns := [], harness := (true, "fd4548ca524f751185f09d3b7364dd0bcfbe721188c01d663f7ad57c8a5acbd2"), looks := false }, kinds := [], alts := [], laidByText := true, laidKinds := [.data], laidTests := true, laidLooks := .later }
def FnExactPowerOfCardSaid : Prop := Claim7.holds Tryd.pinned (.plain (OpenSpec.ofChange fnExactPowerOfSpec)) fnExactPowerOfCard

/-- THE TIED CARD OF 'laws.FnExactKeptFraction'. -/
def fnExactKeptFractionCard : Claim7 := { stood := { row := fnExactKeptFractionRow, standIns := [], harness := (true, "fd4548ca524f751185f09d3b7364dd0bcfbe721188c01d663f7ad57c8a5acbd2"), looks := false }, kinds := [], alts := [], laidByText := true, laidKinds := [.data], laidTests := true, laidLooks := .later }
def FnExactKeptFractionCardSaid : Prop := Claim7.holds Tryd.pinned (.plain (OpenSpec.ofChange fnExactKeptFractionSpec)) fnExactKeptFractionCard

/-- THE TIED CARD OF 'laws.FnExactOrderOf'. -/
def fnExactOrderOfCard : Claim7 := { stood := { row := fnExactOrderOfRow, standIns := [], harness := (true, "fd4548ca524f751185f09d3b7364dd0bcfbe721188c01d663f7ad57c8a5acbd2"), looks := false }, kinds := [], alts := [], laidByText := true, laidKinds := [.data], laidTests := true, laidLooks := .later }
def FnExactOrderOfCardSaid : Prop := Claim7.holds Tryd.pinned (.plain (OpenSpec.ofChange fnExactOrderOfSpec)) fnExactOrderOfCard

/-- THE TIED CARD OF 'laws.FnExactMatrixOfWord'. -/
def fnExactMatrixOfWordCard : Claim7 := { stood := { row := fnExactMatrixOfWordRow, standIns := [], harness := (true, "fd4548ca524f751185f09d3b7364dd0bcfbe721188c01d663f7ad57c8a5acbd2"), looks := false }, kinds := [], alts := [], laidByText := true, laidKinds := [.data, .data], laidTests := true, laidLooks := .later }
def FnExactMatrixOfWordCardSaid : Prop := Claim7.holds Tryd.pinned (.plain (OpenSpec.ofChange fnExactMatrixOfWordSpec)) fnExactMatrixOfWordCard

/-- THE TIED CARD OF 'laws.FnExactMatrixOfFree'. -/
def fnExactMatrixOfFreeCard : Claim7 := { stood := { row := fnExactMatrixOfFreeRow, standIns := [], harness := (true, "fd4548ca524f751185f09d3b7364dd0bcfbe721188c01d663f7ad57c8a5acbd2"), looks := false }, kinds := [], alts := [], laidByText := true, laidKinds := [.data, .data], laidTests := true, laidLooks := .later }
def FnExactMatrixOfFreeCardSaid : Prop := Claim7.holds Tryd.pinned (.plain (OpenSpec.ofChange fnExactMatrixOfFreeSpec)) fnExactMatrixOfFreeCard

/-- THE SECOND FORM's CARD OF 'laws.FnExactRunsOf'. -/
def fnExactRunsOfUptoCard : Claim7 := { stood := { row := fnExactRunsOfUptoRow, standIns := [], harness := (true, "fd4548ca524f751185f09d3b7364dd0bcfbe721188c01d663f7ad57c8a5acbd2"), looks := false }, kinds := [], alts := [], laidByText := true, laidKinds := [.data], laidTests := true, laidLooks := .later }
def FnExactRunsOfUptoCardSaid : Prop := Claim7.holds Tryd.pinned (.plain (OpenSpec.upto fnExactRunsOfSpec)) fnExactRunsOfUptoCard

/-- THE SECOND FORM's CARD OF 'laws.FnExactMatrixOfRuns'. -/
def fnExactMatrixOfRunsUptoCard : Claim7 := { stood := { row := fnExactMatrixOfRunsUptoRow, standIns := [], harness := (true, "fd4548ca524f751185f09d3b7364dd0bcfbe721188c01d663f7ad57c8a5acbd2"), looks := false }, kinds := [], alts := [], laidByText := true, laidKinds := [.data], laidTests := true, laidLooks := .later }
def FnExactMatrixOfRunsUptoCardSaid : Prop := Claim7.holds Tryd.pinned (.plain (OpenSpec.upto fnExactMatrixOfRunsSpec)) fnExactMatrixOfRunsUptoCard

/-- THE SECOND FORM's CARD OF 'laws.FnExactMatrixOfChain'. -/
def fnExactMatrixOfChainUptoCard : Claim7 := { stood := { row := fnExactMatrixOfChainUptoRow, standIns := [], harness := (true, "fd4548ca524f751185f09d3b7364dd0bcfbe721188c01d663f7ad57c8a5acbd2"), looks := false }, kinds := [], alts := [], laidByText := true, laidKinds := [.data, .data], laidTests := true, laidLooks := .later }
def FnExactMatrixOfChainUptoCardSaid : Prop := Claim7.holds Tryd.pinned (.plain (OpenSpec.upto fnExactMatrixOfChainSpec)) fnExactMatrixOfChainUptoCard

/-- THE SECOND FORM's CARD OF 'laws.FnExactChainOf'. -/
def fnExactChainOfUptoCard : Claim7 := { stood := { row := fnExactChainOfUptoRow, standIns := [], harness := (true, "fd4548ca524f751185f09d3b7364dd0bcfbe721188c01d663f7ad57c8a5acbd2"), looks := false }, kinds := [], alts := [], laidByText := true, laidKinds := [.data], laidTests := true, laidLooks := .later }
def FnExactChainOfUptoCardSaid : Prop := Claim7.holds Tryd.pinned (.plain (OpenSpec.upto fnExactChainOfSpec)) fnExactChainOfUptoCard

/-- THE SECOND FORM's CARD OF 'laws.FnExactPowerOf'. -/
def fnExactPowerOfUptoCard : Claim7 := { stood := { row := fnExactPowerOfUptoRow, standIns := [], harness := (true, "fd4548ca524f751185f09d3b7364dd0bcfbe721188c01d663f7ad57c8a5acbd2"), looks := false }, kinds := [], alts := [], laidByText := true, laidKinds := [.data], laidTests := true, laidLooks := .later }
def FnExactPowerOfUptoCardSaid : Prop := Claim7.holds Tryd.pinned (.plain (OpenSpec.upto fnExactPowerOfSpec)) fnExactPowerOfUptoCard

/-- THE SECOND FORM's CARD OF 'laws.FnExactKeptFraction'. -/
def fnExactKeptFractionUptoCard : Claim7 := { stood := { row := fnExactKeptFractionUptoRow, standIns := [], harness := (true, "fd4548ca524f751185f09d3b7364dd0bcfbe721188c01d663f7ad57c8a5acbd2"), looks := false }, kinds := [], alts := [], laidByText := true, laidKinds := [.data], laidTests := true, laidLooks := .later }
def FnExactKeptFractionUptoCardSaid : Prop := Claim7.holds Tryd.pinned (.plain (OpenSpec.upto fnExactKeptFractionSpec)) fnExactKeptFractionUptoCard

/-- THE SECOND FORM's CARD OF 'laws.FnExactOrderOf'. -/
def fnExactOrderOfUptoCard : Claim7 := { stood := { row := fnExactOrderOfUptoRow, standIns := [], harness := (true, "fd4548ca524f751185f09d3b7364dd0bcfbe721188c01d663f7ad57c8a5acbd2"), looks := false }, kinds := [], alts := [], laidByText := true, laidKinds := [.data], laidTests := true, laidLooks := .later }
def FnExactOrderOfUptoCardSaid : Prop := Claim7.holds Tryd.pinned (.plain (OpenSpec.upto fnExactOrderOfSpec)) fnExactOrderOfUptoCard

/-- THE SECOND FORM's CARD OF 'laws.FnExactMatrixOfWord'. -/
def fnExactMatrixOfWordUptoCard : Claim7 := { stood := { row := fnExactMatrixOfWordUptoRow, standIns := [], harness := (true, "fd4548ca524f751185f09d3b7364dd0bcfbe721188c01d663f7ad57c8a5acbd2"), looks := false }, kinds := [], alts := [], laidByText := true, laidKinds := [.data, .data], laidTests := true, laidLooks := .later }
def FnExactMatrixOfWordUptoCardSaid : Prop := Claim7.holds Tryd.pinned (.plain (OpenSpec.upto fnExactMatrixOfWordSpec)) fnExactMatrixOfWordUptoCard

/-- THE SECOND FORM's CARD OF 'laws.FnExactMatrixOfFree'. -/
def fnExactMatrixOfFreeUptoCard : Claim7 := { stood := { row := fnExactMatrixOfFreeUptoRow, standIns := [], harness := (true, "fd4548ca524f751185f09d3b7364dd0bcfbe721188c01d663f7ad57c8a5acbd2"), looks := false }, kinds := [], alts := [], laidByText := true, laidKinds := [.data, .data], laidTests := true, laidLooks := .later }
def FnExactMatrixOfFreeUptoCardSaid : Prop := Claim7.holds Tryd.pinned (.plain (OpenSpec.upto fnExactMatrixOfFreeSpec)) fnExactMatrixOfFreeUptoCard
end Rows
end Go.Proofs.YtempjimoiipkmaaDoor
