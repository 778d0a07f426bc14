/-
  DERIVED. GIVEN WITH THE SEED: THE CARDS: each row of YteknmpnkjoopfaaDoorRows.lean that lists a variable, with what it lists TIED to the program's text (the seventh form; the later family's looks); each row that meets fmt, with fmt's text TOLD by the authors' own Lean function (tested against real Go, not proved from fmt's source: count such statements apart). THE CARD IS WHAT COUNTS. Prove the row's statement (the work); the ties are given (YteknmpnkjoopfaaDoorTie.lean); close each card by the builder's one call (the guide's Derived/Test/ToyasCard.lean, 'card_holds'). Laid BY PROGRAM, IN A SANDBOX (cutbox-door.mjs). By AI agents, Wed Nov 11 2026. No macro, syntax, notation, axiom, sorry.
-/
import Derived.Test.YteknmpnkjoopfaaDoorRows
import GoSem.ClaimSeven
namespace Go.Proofs.YteknmpnkjoopfaaDoor
namespace Rows

/-- THE TIED CARD OF 'laws.FnExactChainOf'. -/
def fnExactChainOfCard : Claim7 := { stood := { row := fnExactChainOfRow, standIns := [], harness := (true, "12ba8cf2774abbe061a734ceb1c6f22b2b928fe357d790cf25a506b10d3b00f6"), looks := true }, kinds := [], alts := [], laidByText := true, laidKinds := [.data], laidTests := true, laidLooks := .later }
def FnExactChainOfCardSaid : Prop := Claim7.holds Tryd.pinned (.plain (OpenSpec.ofChange fnExactChainOfSpec)) fnExactChainOfCard

/-- THE TIED CARD OF 'laws.FnExactMatrixOfRuns'. -/
def fnExactMatrixOfRunsCard : Claim7 := { stood := { row := fnExactMatrixOfRunsRow, standIns := [], harness := (true, "12ba8cf2774abbe061a734ceb1c6f22b2b928fe357d790cf25a506b10d3b00f6"), looks := true }, kinds := [], alts := [], laidByText := true, laidKinds := [.data], laidTests := true, laidLooks := .later }
def FnExactMatrixOfRunsCardSaid : Prop := Claim7.holds Tryd.pinned (.plain (OpenSpec.ofChange fnExactMatrixOfRunsSpec)) fnExactMatrixOfRunsCard

/-- THE TIED CARD OF 'laws.FnExactMatrixOfChain'. -/
def fnExactMatrixOfChainCard : Claim7 := { stood := { row := fnExactMatrixOfChainRow, standIns := [], harness := (true, "12ba8cf2774abbe061a734ceb1c6f22b2b928fe357d790cf25a506b10d3b00f6"), looks := true }, kinds := [], alts := [], laidByText := true, laidKinds := [.data, .data], laidTests := true, laidLooks := .later }
def FnExactMatrixOfChainCardSaid : Prop := Claim7.holds Tryd.pinned (.plain (OpenSpec.ofChange fnExactMatrixOfChainSpec)) fnExactMatrixOfChainCard

/-- THE TIED CARD OF 'laws.FnExactAreNeighbours'. -/
def fnExactAreNeighboursCard : Claim7 := { stood := { row := fnExactAreNeighboursRow, standIns := [], harness := (true, "12ba8cf2774abbe061a734ceb1c6f22b2b928fe357d790cf25a506b10d3b00f6"), looks := true }, kinds := [], alts := [], laidByText := true, laidKinds := [.sentinel], laidTests := true, laidLooks := .later }
def FnExactAreNeighboursCardSaid : Prop := Claim7.holds Tryd.pinned (.plain (OpenSpec.ofChange fnExactAreNeighboursSpec)) fnExactAreNeighboursCard

/-- THE TIED CARD OF 'laws.FnExactMediantOf'. -/
def fnExactMediantOfCard : Claim7 := { stood := { row := fnExactMediantOfRow, standIns := [], harness := (true, "12ba8cf2774abbe061a734ceb1c6f22b2b928fe357d790cf25a506b10d3b00f6"), looks := true }, kinds := [], alts := [], laidByText := true, laidKinds := [.sentinel], laidTests := true, laidLooks := .later }
def FnExactMediantOfCardSaid : Prop := Claim7.holds Tryd.pinned (.plain (OpenSpec.ofChange fnExactMediantOfSpec)) fnExactMediantOfCard

/-- THE TIED CARD OF 'laws.FnExactMatrixOfNeighbours'. -/
def fnExactMatrixOfNeighboursCard : Claim7 := { stood := { row := fnExactMatrixOfNeighboursRow, standIns := [], harness := (true, "12ba8cf2774abbe061a734ceb1c6f22b2b928fe357d790cf25a506b10d3b00f6"), looks := true }, kinds := [], alts := [], laidByText := true, laidKinds := [.sentinel], laidTests := true, laidLooks := .later }
def FnExactMatrixOfNeighboursCardSaid : Prop := Claim7.holds Tryd.pinned (.plain (OpenSpec.ofChange fnExactMatrixOfNeighboursSpec)) fnExactMatrixOfNeighboursCard

/-- THE TIED CARD OF 'laws.FnExactContinuedOf'. -/
def fnExactContinuedOfCard : Claim7 := { stood := { row := fnExactContinuedOfRow, standIns := [], harness := (true, "12ba8cf2774abbe061a734ceb1c6f22b2b928fe357d790cf25a506b10d3b00f6"), looks := true }, kinds := [], alts := [], laidByText := true, laidKinds := [.sentinel], laidTests := true, laidLooks := .later }
def FnExactContinuedOfCardSaid : Prop := Claim7.holds Tryd.pinned (.plain (OpenSpec.ofChange fnExactContinuedOfSpec)) fnExactContinuedOfCard

/-- THE TIED CARD OF 'laws.FnExactConvergentsOf'. -/
def fnExactConvergentsOfCard : Claim7 := { stood := { row := fnExactConvergentsOfRow, standIns := [], harness := (true, "12ba8cf2774abbe061a734ceb1c6f22b2b928fe357d790cf25a506b10d3b00f6"), looks := true }, kinds := [], alts := [], laidByText := true, laidKinds := [.sentinel], laidTests := true, laidLooks := .later }
def FnExactConvergentsOfCardSaid : Prop := Claim7.holds Tryd.pinned (.plain (OpenSpec.ofChange fnExactConvergentsOfSpec)) fnExactConvergentsOfCard

/-- THE TIED CARD OF 'laws.FnExactMatrixOfWord'. -/
def fnExactMatrixOfWordCard : Claim7 := { stood := { row := fnExactMatrixOfWordRow, standIns := [], harness := (true, "12ba8cf2774abbe061a734ceb1c6f22b2b928fe357d790cf25a506b10d3b00f6"), looks := true }, kinds := [], alts := [], laidByText := true, laidKinds := [.data, .data], laidTests := true, laidLooks := .later }
def FnExactMatrixOfWordCardSaid : Prop := Claim7.holds Tryd.pinned (.plain (OpenSpec.ofChange fnExactMatrixOfWordSpec)) fnExactMatrixOfWordCard

/-- THE TIED CARD OF 'laws.FnExactNextInRow'. -/
def fnExactNextInRowCard : Claim7 := { stood := { row := fnExactNextInRowRow, standIns := [], harness := (true, "12ba8cf2774abbe061a734ceb1c6f22b2b928fe357d790cf25a506b10d3b00f6"), looks := true }, kinds := [], alts := [], laidByText := true, laidKinds := [.sentinel], laidTests := true, laidLooks := .later }
def FnExactNextInRowCardSaid : Prop := Claim7.holds Tryd.pinned (.plain (OpenSpec.ofChange fnExactNextInRowSpec)) fnExactNextInRowCard

/-- THE SECOND FORM's CARD OF 'laws.FnExactChainOf'. -/
def fnExactChainOfUptoCard : Claim7 := { stood := { row := fnExactChainOfUptoRow, standIns := [], harness := (true, "12ba8cf2774abbe061a734ceb1c6f22b2b928fe357d790cf25a506b10d3b00f6"), looks := true }, kinds := [], alts := [], laidByText := true, laidKinds := [.data], laidTests := true, laidLooks := .later }
def FnExactChainOfUptoCardSaid : Prop := Claim7.holds Tryd.pinned (.plain (OpenSpec.upto fnExactChainOfSpec)) fnExactChainOfUptoCard

/-- THE SECOND FORM's CARD OF 'laws.FnExactMatrixOfRuns'. -/
def fnExactMatrixOfRunsUptoCard : Claim7 := { stood := { row := fnExactMatrixOfRunsUptoRow, standIns := [], harness := (true, "12ba8cf2774abbe061a734ceb1c6f22b2b928fe357d790cf25a506b10d3b00f6"), looks := true }, kinds := [], alts := [], laidByText := true, laidKinds := [.data], laidTests := true, laidLooks := .later }
def FnExactMatrixOfRunsUptoCardSaid : Prop := Claim7.holds Tryd.pinned (.plain (OpenSpec.upto fnExactMatrixOfRunsSpec)) fnExactMatrixOfRunsUptoCard

/-- THE SECOND FORM's CARD OF 'laws.FnExactMatrixOfChain'. -/
def fnExactMatrixOfChainUptoCard : Claim7 := { stood := { row := fnExactMatrixOfChainUptoRow, standIns := [], harness := (true, "12ba8cf2774abbe061a734ceb1c6f22b2b928fe357d790cf25a506b10d3b00f6"), looks := true }, kinds := [], alts := [], laidByText := true, laidKinds := [.data, .data], laidTests := true, laidLooks := .later }
def FnExactMatrixOfChainUptoCardSaid : Prop := Claim7.holds Tryd.pinned (.plain (OpenSpec.upto fnExactMatrixOfChainSpec)) fnExactMatrixOfChainUptoCard

/-- THE SECOND FORM's CARD OF 'laws.FnExactAreNeighbours'. -/
def fnExactAreNeighboursUptoCard : Claim7 := { stood := { row := fnExactAreNeighboursUptoRow, standIns := [], harness := (true, "12ba8cf2774abbe061a734ceb1c6f22b2b928fe357d790cf25a506b10d3b00f6"), looks := true }, kinds := [], alts := [], laidByText := true, laidKinds := [.sentinel], laidTests := true, laidLooks := .later }
def FnExactAreNeighboursUptoCardSaid : Prop := Claim7.holds Tryd.pinned (.plain (OpenSpec.upto fnExactAreNeighboursSpec)) fnExactAreNeighboursUptoCard

/-- THE SECOND FORM's CARD OF 'laws.FnExactMediantOf'. -/
def fnExactMediantOfUptoCard : Claim7 := { stood := { row := fnExactMediantOfUptoRow, standIns := [], harness := (true, "12ba8cf2774abbe061a734ceb1c6f22b2b928fe357d790cf25a506b10d3b00f6"), looks := true }, kinds := [], alts := [], laidByText := true, laidKinds := [.sentinel], laidTests := true, laidLooks := .later }
def FnExactMediantOfUptoCardSaid : Prop := Claim7.holds Tryd.pinned (.plain (OpenSpec.upto fnExactMediantOfSpec)) fnExactMediantOfUptoCard

/-- THE SECOND FORM's CARD OF 'laws.FnExactMatrixOfNeighbours'. -/
def fnExactMatrixOfNeighboursUptoCard : Claim7 := { stood := { row := fnExactMatrixOfNeighboursUptoRow, standIns := [], harness := (true, "12ba8cf2774abbe061a734ceb1c6f22b2b928fe357d790cf25a506b10d3b00f6"), looks := true }, kinds := [], alts := [], laidByText := true, laidKinds := [.sentinel], laidTests := true, laidLooks := .later }
def FnExactMatrixOfNeighboursUptoCardSaid : Prop := Claim7.holds Tryd.pinned (.plain (OpenSpec.upto fnExactMatrixOfNeighboursSpec)) fnExactMatrixOfNeighboursUptoCard

/-- THE SECOND FORM's CARD OF 'laws.FnExactContinuedOf'. -/
def fnExactContinuedOfUptoCard : Claim7 := { stood := { row := fnExactContinuedOfUptoRow, standIns := [], harness := (true, "12ba8cf2774abbe061a734ceb1c6f22b2b928fe357d790cf25a506b10d3b00f6"), looks := true }, kinds := [], alts := [], laidByText := true, laidKinds := [.sentinel], laidTests := true, laidLooks := .later }
def FnExactContinuedOfUptoCardSaid : Prop := Claim7.holds Tryd.pinned (.plain (OpenSpec.upto fnExactContinuedOfSpec)) fnExactContinuedOfUptoCard

/-- THE SECOND FORM's CARD OF 'laws.FnExactConvergentsOf'. -/
def fnExactConvergentsOfUptoCard : Claim7 := { stood := { row := fnExactConvergentsOfUptoRow, standIns := [], harness := (true, "12ba8cf2774abbe061a734ceb1c6f22b2b928fe357d790cf25a506b10d3b00f6"), looks := true }, kinds := [], alts := [], laidByText := true, laidKinds := [.sentinel], laidTests := true, laidLooks := .later }
def FnExactConvergentsOfUptoCardSaid : Prop := Claim7.holds Tryd.pinned (.plain (OpenSpec.upto fnExactConvergentsOfSpec)) fnExactConvergentsOfUptoCard

/-- THE SECOND FORM's CARD OF 'laws.FnExactMatrixOfWord'. -/
def fnExactMatrixOfWordUptoCard : Claim7 := { stood := { row := fnExactMatrixOfWordUptoRow, standIns := [], harness := (true, "12ba8cf2774abbe061a734ceb1c6f22b2b928fe357d790cf25a506b10d3b00f6"), looks := true }, kinds := [], alts := [], laidByText := true, laidKinds := [.data, .data], laidTests := true, laidLooks := .later }
def FnExactMatrixOfWordUptoCardSaid : Prop := Claim7.holds Tryd.pinned (.plain (OpenSpec.upto fnExactMatrixOfWordSpec)) fnExactMatrixOfWordUptoCard

/-- THE SECOND FORM's CARD OF 'laws.FnExactNextInRow'. -/
def fnExactNextInRowUptoCard : Claim7 := { stood := { row := fnExactNextInRowUptoRow, standIns := [], harness := (true, "12ba8cf2774abbe061a734ceb1c6f22b2b928fe357d790cf25a506b10d3b00f6"), looks := true }, kinds := [], alts := [], laidByText := true, laidKinds := [.sentinel], laidTests := true, laidLooks := .later }
def FnExactNextInRowUptoCardSaid : Prop := Claim7.holds Tryd.pinned (.plain (OpenSpec.upto fnExactNextInRowSpec)) fnExactNextInRowUptoCard
end Rows
end Go.Proofs.YteknmpnkjoopfaaDoor
