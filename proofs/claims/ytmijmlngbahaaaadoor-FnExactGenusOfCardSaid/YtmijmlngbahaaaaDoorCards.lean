/-
  DERIVED. GIVEN WITH THE SEED: THE CARDS: each row of YtmijmlngbahaaaaDoorRows.lean that lists a variable, with what it lists TIED to the program's text (the seventh form; the later family's looks); each row that meets fmt, with fmt's text TOLD by the authors' own Lean function (tested against real Go, not proved from fmt's source: count such statements apart). THE CARD IS WHAT COUNTS. Prove the row's statement (the work); the ties are given (YtmijmlngbahaaaaDoorTie.lean); close each card by the builder's one call (the guide's Derived/Test/ToyasCard.lean, 'card_holds'). Laid BY PROGRAM, IN A SANDBOX (cutbox-door.mjs). By AI agents, Wed Nov 11 2026. No macro, syntax, notation, axiom, sorry.
-/
import Derived.Test.YtmijmlngbahaaaaDoorRows
import GoSem.ClaimSeven
namespace Go.Proofs.YtmijmlngbahaaaaDoor
namespace Rows

/-- THE TIED CARD OF 'laws.FnExactCosetMatrix'. -/
def fnExactCosetMatrixCard : Claim7 := { stood := { row := fnExactCosetMatrixRow, standIns := [], harness := (true, "df29a5da82afadcf7be18277910f49b278647a12a9658a095fb37cb7e0bd6afa"), looks := false }, kinds := [], alts := [], laidByText := true, laidKinds := [.data], laidTests := true, laidLooks := .later }
def FnExactCosetMatrixCardSaid : Prop := Claim7.holds Tryd.pinned (.plain (OpenSpec.ofChange fnExactCosetMatrixSpec)) fnExactCosetMatrixCard

/-- THE TIED CARD OF 'laws.FnExactCuspOfFraction'. -/
def fnExactCuspOfFractionCard : Claim7 := { stood := { row := fnExactCuspOfFractionRow, standIns := [], harness := (true, "df29a5da82afadcf7be18277910f49b278647a12a9658a095fb37cb7e0bd6afa"), looks := false }, kinds := [], alts := [], laidByText := true, laidKinds := [.data], laidTests := true, laidLooks := .later }
def FnExactCuspOfFractionCardSaid : Prop := Claim7.holds Tryd.pinned (.plain (OpenSpec.ofChange fnExactCuspOfFractionSpec)) fnExactCuspOfFractionCard

/-- THE TIED CARD OF 'laws.FnExactCountKept'. -/
def fnExactCountKeptCard : Claim7 := { stood := { row := fnExactCountKeptRow, standIns := [], harness := (true, "df29a5da82afadcf7be18277910f49b278647a12a9658a095fb37cb7e0bd6afa"), looks := false }, kinds := [], alts := [], laidByText := true, laidKinds := [.data, .data], laidTests := true, laidLooks := .later }
def FnExactCountKeptCardSaid : Prop := Claim7.holds Tryd.pinned (.plain (OpenSpec.ofChange fnExactCountKeptSpec)) fnExactCountKeptCard

/-- THE TIED CARD OF 'laws.FnExactGenusOf'. -/
def fnExactGenusOfCard : Claim7 := { stood := { row := fnExactGenusOfRow, standIns := [], harness := (true, "df29a5da82afadcf7be18277910f49b278647a12a9658a095fb37cb7e0bd6afa"), looks := false }, kinds := [], alts := [], laidByText := true, laidKinds := [.data, .data], laidTests := true, laidLooks := .later }
def FnExactGenusOfCardSaid : Prop := Claim7.holds Tryd.pinned (.plain (OpenSpec.ofChange fnExactGenusOfSpec)) fnExactGenusOfCard

/-- THE SECOND FORM's CARD OF 'laws.FnExactCosetMatrix'. -/
def fnExactCosetMatrixUptoCard : Claim7 := { stood := { row := fnExactCosetMatrixUptoRow, standIns := [], harness := (true, "df29a5da82afadcf7be18277910f49b278647a12a9658a095fb37cb7e0bd6afa"), looks := false }, kinds := [], alts := [], laidByText := true, laidKinds := [.data], laidTests := true, laidLooks := .later }
def FnExactCosetMatrixUptoCardSaid : Prop := Claim7.holds Tryd.pinned (.plain (OpenSpec.upto fnExactCosetMatrixSpec)) fnExactCosetMatrixUptoCard

/-- THE SECOND FORM's CARD OF 'laws.FnExactCuspOfFraction'. -/
def fnExactCuspOfFractionUptoCard : Claim7 := { stood := { row := fnExactCuspOfFractionUptoRow, standIns := [], harness := (true, "df29a5da82afadcf7be18277910f49b278647a12a9658a095fb37cb7e0bd6afa"), looks := false }, kinds := [], alts := [], laidByText := true, laidKinds := [.data], laidTests := true, laidLooks := .later }
def FnExactCuspOfFractionUptoCardSaid : Prop := Claim7.holds Tryd.pinned (.plain (OpenSpec.upto fnExactCuspOfFractionSpec)) fnExactCuspOfFractionUptoCard

/-- THE SECOND FORM's CARD OF 'laws.FnExactCountKept'. -/
def fnExactCountKeptUptoCard : Claim7 := { stood := { row := fnExactCountKeptUptoRow, standIns := [], harness := (true, "df29a5da82afadcf7be18277910f49b278647a12a9658a095fb37cb7e0bd6afa"), looks := false }, kinds := [], alts := [], laidByText := true, laidKinds := [.data, .data], laidTests := true, laidLooks := .later }
def FnExactCountKeptUptoCardSaid : Prop := Claim7.holds Tryd.pinned (.plain (OpenSpec.upto fnExactCountKeptSpec)) fnExactCountKeptUptoCard

/-- THE SECOND FORM's CARD OF 'laws.FnExactGenusOf'. -/
def fnExactGenusOfUptoCard : Claim7 := { stood := { row := fnExactGenusOfUptoRow, standIns := [], harness := (true, "df29a5da82afadcf7be18277910f49b278647a12a9658a095fb37cb7e0bd6afa"), looks := false }, kinds := [], alts := [], laidByText := true, laidKinds := [.data, .data], laidTests := true, laidLooks := .later }
def FnExactGenusOfUptoCardSaid : Prop := Claim7.holds Tryd.pinned (.plain (OpenSpec.upto fnExactGenusOfSpec)) fnExactGenusOfUptoCard
end Rows
end Go.Proofs.YtmijmlngbahaaaaDoor
