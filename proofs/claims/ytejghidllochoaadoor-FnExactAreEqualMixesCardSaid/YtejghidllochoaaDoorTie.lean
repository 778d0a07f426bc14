/-
  DERIVED. GIVEN WITH THE SEED: THE PROGRAM's TIES (one call each: nine closed facts by the kernel) AND EACH ROW's TIE, after the 31st guide's Derived/Test/Toyas{Tie, Card}.lean. No idea stands in it: it is a product of the set-up. Laid BY PROGRAM, IN A SANDBOX (cutbox-door.mjs). By AI agents, Wed Nov 11 2026. No macro, syntax, notation, axiom, sorry.
-/
import Derived.Test.YtejghidllochoaaDoorRows
import Derived.LaidByTextLater
import Derived.SevenTiedAt
import Derived.LaidSub
import Derived.LaidOnce
namespace Go.Proofs.YtejghidllochoaaDoor
open Go
set_option maxRecDepth 100000
theorem seatTie1 : Tryd.prog.laidByTextLater [("loop.example/g01380/impl.identity", Rows.laid_loop_example_g01380_impl_identity), ("loop.example/g01380/impl.matrixS", Rows.laid_loop_example_g01380_impl_matrixS), ("loop.example/g01380/impl.errLeft", Rows.laid_loop_example_g01380_impl_errLeft)] [.data, .data, .sentinel] true :=
  Program.laidByTextLater_by_one 38 8 5 (by kernel_rfl) (by kernel_rfl) (by kernel_rfl) (by kernel_rfl) (by kernel_rfl) (by kernel_rfl) (fun _ _ => by kernel_rfl)
theorem noOwnUnsafe : Tryd.pinned.checked.prog.headLifts.contains "ownunsafe" = false := by kernel_rfl
theorem tie : Tryd.prog.laidByTextLater [("loop.example/g01380/impl.identity", Rows.laid_loop_example_g01380_impl_identity), ("loop.example/g01380/impl.matrixS", Rows.laid_loop_example_g01380_impl_matrixS)] [.data, .data] true :=
  Program.laidByTextLater.sub seatTie1 ["loop.example/g01380/impl.identity", "loop.example/g01380/impl.matrixS"] (by kernel_rfl) (by kernel_rfl)
theorem fnExactRelationsOf_row_tie : Rows.fnExactRelationsOfRow.laidByTextAt .later Tryd.pinned [.data, .data] true :=
  OpenClaim.laidByTextAt_later rfl rfl tie noOwnUnsafe
theorem fnExactRankOf_row_tie : Rows.fnExactRankOfRow.laidByTextAt .later Tryd.pinned [.data, .data] true :=
  OpenClaim.laidByTextAt_later rfl rfl tie noOwnUnsafe
theorem fnExactDimensionOf_row_tie : Rows.fnExactDimensionOfRow.laidByTextAt .later Tryd.pinned [.data, .data] true :=
  OpenClaim.laidByTextAt_later rfl rfl tie noOwnUnsafe
theorem tie2 : Tryd.prog.laidByTextLater [("loop.example/g01380/impl.identity", Rows.laid_loop_example_g01380_impl_identity), ("loop.example/g01380/impl.matrixS", Rows.laid_loop_example_g01380_impl_matrixS), ("loop.example/g01380/impl.errLeft", Rows.laid_loop_example_g01380_impl_errLeft)] [.data, .data, .sentinel] true :=
  Program.laidByTextLater.sub seatTie1 ["loop.example/g01380/impl.identity", "loop.example/g01380/impl.matrixS", "loop.example/g01380/impl.errLeft"] (by kernel_rfl) (by kernel_rfl)
theorem fnExactGoes_row_tie : Rows.fnExactGoesRow.laidByTextAt .later Tryd.pinned [.data, .data, .sentinel] true :=
  OpenClaim.laidByTextAt_later rfl rfl tie2 noOwnUnsafe
theorem fnExactAreEqualMixes_row_tie : Rows.fnExactAreEqualMixesRow.laidByTextAt .later Tryd.pinned [.data, .data, .sentinel] true :=
  OpenClaim.laidByTextAt_later rfl rfl tie2 noOwnUnsafe
theorem tie3 : Tryd.prog.laidByTextLater [("loop.example/g01380/impl.matrixS", Rows.laid_loop_example_g01380_impl_matrixS)] [.data] true :=
  Program.laidByTextLater.sub seatTie1 ["loop.example/g01380/impl.matrixS"] (by kernel_rfl) (by kernel_rfl)
theorem fnExactEndsOf_row_tie : Rows.fnExactEndsOfRow.laidByTextAt .later Tryd.pinned [.data] true :=
  OpenClaim.laidByTextAt_later rfl rfl tie3 noOwnUnsafe
theorem tie4 : Tryd.prog.laidByTextLater [("loop.example/g01380/impl.identity", Rows.laid_loop_example_g01380_impl_identity)] [.data] true :=
  Program.laidByTextLater.sub seatTie1 ["loop.example/g01380/impl.identity"] (by kernel_rfl) (by kernel_rfl)
theorem fnExactCuspOfFraction_row_tie : Rows.fnExactCuspOfFractionRow.laidByTextAt .later Tryd.pinned [.data] true :=
  OpenClaim.laidByTextAt_later rfl rfl tie4 noOwnUnsafe
theorem fnExactRelationsOfUpto_row_tie : Rows.fnExactRelationsOfUptoRow.laidByTextAt .later Tryd.pinned [.data, .data] true :=
  OpenClaim.laidByTextAt_later rfl rfl tie noOwnUnsafe
theorem fnExactRankOfUpto_row_tie : Rows.fnExactRankOfUptoRow.laidByTextAt .later Tryd.pinned [.data, .data] true :=
  OpenClaim.laidByTextAt_later rfl rfl tie noOwnUnsafe
theorem fnExactDimensionOfUpto_row_tie : Rows.fnExactDimensionOfUptoRow.laidByTextAt .later Tryd.pinned [.data, .data] true :=
  OpenClaim.laidByTextAt_later rfl rfl tie noOwnUnsafe
theorem fnExactGoesUpto_row_tie : Rows.fnExactGoesUptoRow.laidByTextAt .later Tryd.pinned [.data, .data, .sentinel] true :=
  OpenClaim.laidByTextAt_later rfl rfl tie2 noOwnUnsafe
theorem fnExactAreEqualMixesUpto_row_tie : Rows.fnExactAreEqualMixesUptoRow.laidByTextAt .later Tryd.pinned [.data, .data, .sentinel] true :=
  OpenClaim.laidByTextAt_later rfl rfl tie2 noOwnUnsafe
theorem fnExactEndsOfUpto_row_tie : Rows.fnExactEndsOfUptoRow.laidByTextAt .later Tryd.pinned [.data] true :=
  OpenClaim.laidByTextAt_later rfl rfl tie3 noOwnUnsafe
theorem fnExactCuspOfFractionUpto_row_tie : Rows.fnExactCuspOfFractionUptoRow.laidByTextAt .later Tryd.pinned [.data] true :=
  OpenClaim.laidByTextAt_later rfl rfl tie4 noOwnUnsafe
end Go.Proofs.YtejghidllochoaaDoor
