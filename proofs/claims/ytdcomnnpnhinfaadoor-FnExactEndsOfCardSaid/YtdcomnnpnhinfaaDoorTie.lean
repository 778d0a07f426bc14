/-
  DERIVED. GIVEN WITH THE SEED: THE PROGRAM's TIES (one call each: nine closed facts by the kernel) AND EACH ROW's TIE, after the 31st guide's Derived/Test/Toyas{Tie, Card}.lean. No idea stands in it: it is a product of the set-up. Laid BY PROGRAM, IN A SANDBOX (cutbox-door.mjs). By AI agents, Wed Nov 11 2026. No macro, syntax, notation, axiom, sorry.
-/
import Derived.Test.YtdcomnnpnhinfaaDoorRows
import Derived.LaidByTextLater
import Derived.SevenTiedAt
import Derived.LaidSub
import Derived.LaidOnce
namespace Go.Proofs.YtdcomnnpnhinfaaDoor
open Go
set_option maxRecDepth 100000
theorem seatTie1 : Tryd.prog.laidByTextLater [("loop.example/g01380/impl.identity", Rows.laid_loop_example_g01380_impl_identity), ("loop.example/g01380/impl.matrixS", Rows.laid_loop_example_g01380_impl_matrixS), ("loop.example/g01380/impl.firstTriple", Rows.laid_loop_example_g01380_impl_firstTriple)] [.data, .data, .data] true :=
  Program.laidByTextLater_by_one 24 8 5 (by kernel_rfl) (by kernel_rfl) (by kernel_rfl) (by kernel_rfl) (by kernel_rfl) (by kernel_rfl) (fun _ _ => by kernel_rfl)
theorem noOwnUnsafe : Tryd.pinned.checked.prog.headLifts.contains "ownunsafe" = false := by kernel_rfl
theorem tie : Tryd.prog.laidByTextLater [("loop.example/g01380/impl.matrixS", Rows.laid_loop_example_g01380_impl_matrixS)] [.data] true :=
  Program.laidByTextLater.sub seatTie1 ["loop.example/g01380/impl.matrixS"] (by kernel_rfl) (by kernel_rfl)
theorem fnExactActionOfLevel_row_tie : Rows.fnExactActionOfLevelRow.laidByTextAt .later Tryd.pinned [.data] true :=
  OpenClaim.laidByTextAt_later rfl rfl tie noOwnUnsafe
theorem fnExactEndsOf_row_tie : Rows.fnExactEndsOfRow.laidByTextAt .later Tryd.pinned [.data] true :=
  OpenClaim.laidByTextAt_later rfl rfl tie noOwnUnsafe
theorem tie2 : Tryd.prog.laidByTextLater [("loop.example/g01380/impl.identity", Rows.laid_loop_example_g01380_impl_identity)] [.data] true :=
  Program.laidByTextLater.sub seatTie1 ["loop.example/g01380/impl.identity"] (by kernel_rfl) (by kernel_rfl)
theorem fnExactCuspOfFraction_row_tie : Rows.fnExactCuspOfFractionRow.laidByTextAt .later Tryd.pinned [.data] true :=
  OpenClaim.laidByTextAt_later rfl rfl tie2 noOwnUnsafe
theorem tie3 : Tryd.prog.laidByTextLater [("loop.example/g01380/impl.firstTriple", Rows.laid_loop_example_g01380_impl_firstTriple)] [.data] true :=
  Program.laidByTextLater.sub seatTie1 ["loop.example/g01380/impl.firstTriple"] (by kernel_rfl) (by kernel_rfl)
theorem fnExactTriplesBelow_row_tie : Rows.fnExactTriplesBelowRow.laidByTextAt .later Tryd.pinned [.data] true :=
  OpenClaim.laidByTextAt_later rfl rfl tie3 noOwnUnsafe
theorem fnExactMarkovNumbers_row_tie : Rows.fnExactMarkovNumbersRow.laidByTextAt .later Tryd.pinned [.data] true :=
  OpenClaim.laidByTextAt_later rfl rfl tie3 noOwnUnsafe
theorem fnExactActionOfLevelUpto_row_tie : Rows.fnExactActionOfLevelUptoRow.laidByTextAt .later Tryd.pinned [.data] true :=
  OpenClaim.laidByTextAt_later rfl rfl tie noOwnUnsafe
theorem fnExactCuspOfFractionUpto_row_tie : Rows.fnExactCuspOfFractionUptoRow.laidByTextAt .later Tryd.pinned [.data] true :=
  OpenClaim.laidByTextAt_later rfl rfl tie2 noOwnUnsafe
theorem fnExactEndsOfUpto_row_tie : Rows.fnExactEndsOfUptoRow.laidByTextAt .later Tryd.pinned [.data] true :=
  OpenClaim.laidByTextAt_later rfl rfl tie noOwnUnsafe
theorem fnExactTriplesBelowUpto_row_tie : Rows.fnExactTriplesBelowUptoRow.laidByTextAt .later Tryd.pinned [.data] true :=
  OpenClaim.laidByTextAt_later rfl rfl tie3 noOwnUnsafe
theorem fnExactMarkovNumbersUpto_row_tie : Rows.fnExactMarkovNumbersUptoRow.laidByTextAt .later Tryd.pinned [.data] true :=
  OpenClaim.laidByTextAt_later rfl rfl tie3 noOwnUnsafe
end Go.Proofs.YtdcomnnpnhinfaaDoor
