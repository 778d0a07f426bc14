/-
  DERIVED. GIVEN WITH THE SEED: THE CARDS: each row of YtejghidllochoaaDoorRows.lean that lists a variable, with what it lists TIED to the program's text (the seventh form; the later family's looks); each row that meets fmt, with fmt's text TOLD by the authors' own Lean function (tested against real Go, not proved from fmt's source: count such statements apart). THE CARD IS WHAT COUNTS. Prove the row's statement (the work); the ties are given (YtejghidllochoaaDoorTie.lean); close each card by the builder's one call (the guide's Derived/Test/ToyasCard.lean, 'card_holds'). Laid BY PROGRAM, IN A SANDBOX (cutbox-door.mjs). By AI agents, Wed Nov 11 2026. No macro, syntax, notation, axiom, sorry.
-/
import Derived.Test.YtejghidllochoaaDoorRows
import GoSem.ClaimSeven
namespace Go.Proofs.YtejghidllochoaaDoor
namespace Rows

/-- THE TIED CARD OF 'laws.FnExactRelationsOf'. -/
def fnExactRelationsOfCard : Claim7 := { stood := { row := fnExactRelationsOfRow, standIns := [], harness := (true, "49f517fd2e99455c2e719c248441a6fcddb748b04dd0db7e1c1544a3e2d3efc9"), looks := true }, kinds := [], alts := [], laidByText := true, laidKinds := [.data, .data], laidTests := true, laidLooks := .later }
def FnExactRelationsOfCardSaid : Prop := Claim7.holds Tryd.pinned (.plain (OpenSpec.ofChange fnExactRelationsOfSpec)) fnExactRelationsOfCard

/-- THE TIED CARD OF 'laws.FnExactRankOf'. -/
def fnExactRankOfCard : Claim7 := { stood := { row := fnExactRankOfRow, standIns := [], harness := (true, "49f517fd2e99455c2e719c248441a6fcddb748b04dd0db7e1c1544a3e2d3efc9"), looks := true }, kinds := [], alts := [], laidByText := true, laidKinds := [.data, .data], laidTests := true, laidLooks := .later }
def FnExactRankOfCardSaid : Prop := Claim7.holds Tryd.pinned (.plain (OpenSpec.ofChange fnExactRankOfSpec)) fnExactRankOfCard

/-- THE TIED CARD OF 'laws.FnExactDimensionOf'. -/
def fnExactDimensionOfCard : Claim7 := { stood := { row := fnExactDimensionOfRow, standIns := [], harness := (true, "49f517fd2e99455c2e719c248441a6fcddb748b04dd0db7e1c1544a3e2d3efc9"), looks := true }, kinds := [], alts := [], laidByText := true, laidKinds := [.data, .data], laidTests := true, laidLooks := .later }
def FnExactDimensionOfCardSaid : Prop := Claim7.holds Tryd.pinned (.plain (OpenSpec.ofChange fnExactDimensionOfSpec)) fnExactDimensionOfCard

/-- THE TIED CARD OF 'laws.FnExactGoes'. -/
def fnExactGoesCard : Claim7 := { stood := { row := fnExactGoesRow, standIns := [], harness := (true, "49f517fd2e99455c2e719c248441a6fcddb748b04dd0db7e1c1544a3e2d3efc9"), looks := true }, kinds := [], alts := [], laidByText := true, laidKinds := [.data, .data, .sentinel], laidTests := true, laidLooks := .later }
def FnExactGoesCardSaid : Prop := Claim7.holds Tryd.pinned (.plain (OpenSpec.ofChange fnExactGoesSpec)) fnExactGoesCard

/-- THE TIED CARD OF 'laws.FnExactAreEqualMixes'. -/
def fnExactAreEqualMixesCard : Claim7 := { stood := { row := fnExactAreEqualMixesRow, standIns := [], harness := (true, "49f517fd2e99455c2e719c248441a6fcddb748b04dd0db7e1c1544a3e2d3efc9"), looks := true }, kinds := [], alts := [], laidByText := true, laidKinds := [.data, .data, .sentinel], laidTests := true, laidLooks := .later }
def FnExactAreEqualMixesCardSaid : Prop := Claim7.holds Tryd.pinned (.plain (OpenSpec.ofChange fnExactAreEqualMixesSpec)) fnExactAreEqualMixesCard

/-- THE TIED CARD OF 'laws.FnExactEndsOf'. -/
def fnExactEndsOfCard : Claim7 := { stood := { row := fnExactEndsOfRow, standIns := [], harness := (true, "49f517fd2e99455c2e719c248441a6fcddb748b04dd0db7e1c1544a3e2d3efc9"), looks := true }, kinds := [], alts := [], laidByText := true, laidKinds := [.data], laidTests := true, laidLooks := .later }
def FnExactEndsOfCardSaid : Prop := Claim7.holds Tryd.pinned (.plain (OpenSpec.ofChange fnExactEndsOfSpec)) fnExactEndsOfCard

/-- THE TIED CARD OF 'laws.FnExactCuspOfFraction'. -/
def fnExactCuspOfFractionCard : Claim7 := { stood := { row := fnExactCuspOfFractionRow, standIns := [], harness := (true, "49f517fd2e99455c2e719c248441a6fcddb748b04dd0db7e1c1544a3e2d3efc9"), looks := true }, kinds := [], alts := [], laidByText := true, laidKinds := [.data], laidTests := true, laidLooks := .later }
def FnExactCuspOfFractionCardSaid : Prop := Claim7.holds Tryd.pinned (.plain (OpenSpec.ofChange fnExactCuspOfFractionSpec)) fnExactCuspOfFractionCard

/-- THE SECOND FORM's CARD OF 'laws.FnExactRelationsOf'. -/
def fnExactRelationsOfUptoCard : Claim7 := { stood := { row := fnExactRelationsOfUptoRow, standIns := [], harness := (true, "49f517fd2e99455c2e719c248441a6fcddb748b04dd0db7e1c1544a3e2d3efc9"), looks := true }, kinds := [], alts := [], laidByText := true, laidKinds := [.data, .data], laidTests := true, laidLooks := .later }
def FnExactRelationsOfUptoCardSaid : Prop := Claim7.holds Tryd.pinned (.plain (OpenSpec.upto fnExactRelationsOfSpec)) fnExactRelationsOfUptoCard

/-- THE SECOND FORM's CARD OF 'laws.FnExactRankOf'. -/
def fnExactRankOfUptoCard : Claim7 := { stood := { row := fnExactRankOfUptoRow, standIns := [], harness := (true, "49f517fd2e99455c2e719c248441a6fcddb748b04dd0db7e1c1544a3e2d3efc9"), looks := true }, kinds := [], alts := [], laidByText := true, laidKinds := [.data, .data], laidTests := true, laidLooks := .later }
def FnExactRankOfUptoCardSaid : Prop := Claim7.holds Tryd.pinned (.plain (OpenSpec.upto fnExactRankOfSpec)) fnExactRankOfUptoCard

/-- THE SECOND FORM's CARD OF 'laws.FnExactDimensionOf'. -/
def fnExactDimensionOfUptoCard : Claim7 := { stood := { row := fnExactDimensionOfUptoRow, standIns := [], harness := (true, "49f517fd2e99455c2e719c248441a6fcddb748b04dd0db7e1c1544a3e2d3efc9"), looks := true }, kinds := [], alts := [], laidByText := true, laidKinds := [.data, .data], laidTests := true, laidLooks := .later }
def FnExactDimensionOfUptoCardSaid : Prop := Claim7.holds Tryd.pinned (.plain (OpenSpec.upto fnExactDimensionOfSpec)) fnExactDimensionOfUptoCard

/-- THE SECOND FORM's CARD OF 'laws.FnExactGoes'. -/
def fnExactGoesUptoCard : Claim7 := { stood := { row := fnExactGoesUptoRow, standIns := [], harness := (true, "49f517fd2e99455c2e719c248441a6fcddb748b04dd0db7e1c1544a3e2d3efc9"), looks := true }, kinds := [], alts := [], laidByText := true, laidKinds := [.data, .data, .sentinel], laidTests := true, laidLooks := .later }
def FnExactGoesUptoCardSaid : Prop := Claim7.holds Tryd.pinned (.plain (OpenSpec.upto fnExactGoesSpec)) fnExactGoesUptoCard

/-- THE SECOND FORM's CARD OF 'laws.FnExactAreEqualMixes'. -/
def fnExactAreEqualMixesUptoCard : Claim7 := { stood := { row := fnExactAreEqualMixesUptoRow, standIns := [], harness := (true, "49f517fd2e99455c2e719c248441a6fcddb748b04dd0db7e1c1544a3e2d3efc9"), looks := true }, kinds := [], alts := [], laidByText := true, laidKinds := [.data, .data, .sentinel], laidTests := true, laidLooks := .later }
def FnExactAreEqualMixesUptoCardSaid : Prop := Claim7.holds Tryd.pinned (.plain (OpenSpec.upto fnExactAreEqualMixesSpec)) fnExactAreEqualMixesUptoCard

/-- THE SECOND FORM's CARD OF 'laws.FnExactEndsOf'. -/
def fnExactEndsOfUptoCard : Claim7 := { stood := { row := fnExactEndsOfUptoRow, standIns := [], harness := (true, "49f517fd2e99455c2e719c248441a6fcddb748b04dd0db7e1c1544a3e2d3efc9"), looks := true }, kinds := [], alts := [], laidByText := true, laidKinds := [.data], laidTests := true, laidLooks := .later }
def FnExactEndsOfUptoCardSaid : Prop := Claim7.holds Tryd.pinned (.plain (OpenSpec.upto fnExactEndsOfSpec)) fnExactEndsOfUptoCard

/-- THE SECOND FORM's CARD OF 'laws.FnExactCuspOfFraction'. -/
def fnExactCuspOfFractionUptoCard : Claim7 := { stood := { row := fnExactCuspOfFractionUptoRow, standIns := [], harness := (true, "49f517fd2e99455c2e719c248441a6fcddb748b04dd0db7e1c1544a3e2d3efc9"), looks := true }, kinds := [], alts := [], laidByText := true, laidKinds := [.data], laidTests := true, laidLooks := .later }
def FnExactCuspOfFractionUptoCardSaid : Prop := Claim7.holds Tryd.pinned (.plain (OpenSpec.upto fnExactCuspOfFractionSpec)) fnExactCuspOfFractionUptoCard
end Rows
end Go.Proofs.YtejghidllochoaaDoor
