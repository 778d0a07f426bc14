/-
  DERIVED. GIVEN WITH THE SEED: THE CARDS: each row of YtdcomnnpnhinfaaDoorRows.lean that lists a variable, with what it lists TIED to the program's text (the seventh form; the later family's looks); each row that meets fmt, with fmt's text TOLD by the authors' own Lean function (tested against real Go, not proved from fmt's source: count such statements apart). THE CARD IS WHAT COUNTS. Prove the row's statement (the work); the ties are given (YtdcomnnpnhinfaaDoorTie.lean); close each card by the builder's one call (the guide's Derived/Test/ToyasCard.lean, 'card_holds'). Laid BY PROGRAM, IN A SANDBOX (cutbox-door.mjs). By AI agents, Wed Nov 11 2026. No macro, syntax, notation, axiom, sorry.
-/
import Derived.Test.YtdcomnnpnhinfaaDoorRows
import GoSem.ClaimSeven
namespace Go.Proofs.YtdcomnnpnhinfaaDoor
namespace Rows

/-- THE TIED CARD OF 'laws.FnExactActionOfLevel'. -/
def fnExactActionOfLevelCard : Claim7 := { stood := { row := fnExactActionOfLevelRow, standIns := [], harness := (true, "d7ed5eb47a0b8e0d10378b2b78bc0d13e8afd27277460dfdacf79c933e4bb690"), looks := false }, kinds := [], alts := [], laidByText := true, laidKinds := [.data], laidTests := true, laidLooks := .later }
def FnExactActionOfLevelCardSaid : Prop := Claim7.holds Tryd.pinned (.plain (OpenSpec.ofChange fnExactActionOfLevelSpec)) fnExactActionOfLevelCard

/-- THE TIED CARD OF 'laws.FnExactCuspOfFraction'. -/
def fnExactCuspOfFractionCard : Claim7 := { stood := { row := fnExactCuspOfFractionRow, standIns := [], harness := (true, "d7ed5eb47a0b8e0d10378b2b78bc0d13e8afd27277460dfdacf79c933e4bb690"), looks := false }, kinds := [], alts := [], laidByText := true, laidKinds := [.data], laidTests := true, laidLooks := .later }
def FnExactCuspOfFractionCardSaid : Prop := Claim7.holds Tryd.pinned (.plain (OpenSpec.ofChange fnExactCuspOfFractionSpec)) fnExactCuspOfFractionCard

/-- THE TIED CARD OF 'laws.FnExactEndsOf'. -/
def fnExactEndsOfCard : Claim7 := { stood := { row := fnExactEndsOfRow, standIns := [], harness := (true, "d7ed5eb47a0b8e0d10378b2b78bc0d13e8afd27277460dfdacf79c933e4bb690"), looks := false }, kinds := [], alts := [], laidByText := true, laidKinds := [.data], laidTests := true, laidLooks := .later }
def FnExactEndsOfCardSaid : Prop := Claim7.holds Tryd.pinned (.plain (OpenSpec.ofChange fnExactEndsOfSpec)) fnExactEndsOfCard

/-- THE TIED CARD OF 'laws.FnExactTriplesBelow'. -/
def fnExactTriplesBelowCard : Claim7 := { stood := { row := fnExactTriplesBelowRow, standIns := [], harness := (true, "d7ed5eb47a0b8e0d10378b2b78bc0d13e8afd27277460dfdacf79c933e4bb690"), looks := false }, kinds := [], alts := [], laidByText := true, laidKinds := [.data], laidTests := true, laidLooks := .later }
def FnExactTriplesBelowCardSaid : Prop := Claim7.holds Tryd.pinned (.plain (OpenSpec.ofChange fnExactTriplesBelowSpec)) fnExactTriplesBelowCard

/-- THE TIED CARD OF 'laws.FnExactMarkovNumbers'. -/
def fnExactMarkovNumbersCard : Claim7 := { stood := { row := fnExactMarkovNumbersRow, standIns := [], harness := (true, "d7ed5eb47a0b8e0d10378b2b78bc0d13e8afd27277460dfdacf79c933e4bb690"), looks := false }, kinds := [], alts := [], laidByText := true, laidKinds := [.data], laidTests := true, laidLooks := .later }
def FnExactMarkovNumbersCardSaid : Prop := Claim7.holds Tryd.pinned (.plain (OpenSpec.ofChange fnExactMarkovNumbersSpec)) fnExactMarkovNumbersCard

/-- THE SECOND FORM's CARD OF 'laws.FnExactActionOfLevel'. -/
def fnExactActionOfLevelUptoCard : Claim7 := { stood := { row := fnExactActionOfLevelUptoRow, standIns := [], harness := (true, "d7ed5eb47a0b8e0d10378b2b78bc0d13e8afd27277460dfdacf79c933e4bb690"), looks := false }, kinds := [], alts := [], laidByText := true, laidKinds := [.data], laidTests := true, laidLooks := .later }
def FnExactActionOfLevelUptoCardSaid : Prop := Claim7.holds Tryd.pinned (.plain (OpenSpec.upto fnExactActionOfLevelSpec)) fnExactActionOfLevelUptoCard

/-- THE SECOND FORM's CARD OF 'laws.FnExactCuspOfFraction'. -/
def fnExactCuspOfFractionUptoCard : Claim7 := { stood := { row := fnExactCuspOfFractionUptoRow, standIns := [], harness := (true, "d7ed5eb47a0b8e0d10378b2b78bc0d13e8afd27277460dfdacf79c933e4bb690"), looks := false }, kinds := [], alts := [], laidByText := true, laidKinds := [.data], laidTests := true, laidLooks := .later }
def FnExactCuspOfFractionUptoCardSaid : Prop := Claim7.holds Tryd.pinned (.plain (OpenSpec.upto fnExactCuspOfFractionSpec)) fnExactCuspOfFractionUptoCard

/-- THE SECOND FORM's CARD OF 'laws.FnExactEndsOf'. -/
def fnExactEndsOfUptoCard : Claim7 := { stood := { row := fnExactEndsOfUptoRow, standIns := [], harness := (true, "d7ed5eb47a0b8e0d10378b2b78bc0d13e8afd27277460dfdacf79c933e4bb690"), looks := false }, kinds := [], alts := [], laidByText := true, laidKinds := [.data], laidTests := true, laidLooks := .later }
def FnExactEndsOfUptoCardSaid : Prop := Claim7.holds Tryd.pinned (.plain (OpenSpec.upto fnExactEndsOfSpec)) fnExactEndsOfUptoCard

/-- THE SECOND FORM's CARD OF 'laws.FnExactTriplesBelow'. -/
def fnExactTriplesBelowUptoCard : Claim7 := { stood := { row := fnExactTriplesBelowUptoRow, standIns := [], harness := (true, "d7ed5eb47a0b8e0d10378b2b78bc0d13e8afd27277460dfdacf79c933e4bb690"), looks := false }, kinds := [], alts := [], laidByText := true, laidKinds := [.data], laidTests := true, laidLooks := .later }
def FnExactTriplesBelowUptoCardSaid : Prop := Claim7.holds Tryd.pinned (.plain (OpenSpec.upto fnExactTriplesBelowSpec)) fnExactTriplesBelowUptoCard

/-- THE SECOND FORM's CARD OF 'laws.FnExactMarkovNumbers'. -/
def fnExactMarkovNumbersUptoCard : Claim7 := { stood := { row := fnExactMarkovNumbersUptoRow, standIns := [], harness := (true, "d7ed5eb47a0b8e0d10378b2b78bc0d13e8afd27277460dfdacf79c933e4bb690"), looks := false }, kinds := [], alts := [], laidByText := true, laidKinds := [.data], laidTests := true, laidLooks := .later }
def FnExactMarkovNumbersUptoCardSaid : Prop := Claim7.holds Tryd.pinned (.plain (OpenSpec.upto fnExactMarkovNumbersSpec)) fnExactMarkovNumbersUptoCard
end Rows
end Go.Proofs.YtdcomnnpnhinfaaDoor
