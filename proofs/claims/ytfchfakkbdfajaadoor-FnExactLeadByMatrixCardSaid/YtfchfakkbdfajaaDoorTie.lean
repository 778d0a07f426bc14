/-
  DERIVED. GIVEN WITH THE SEED: THE PROGRAM's TIES (one call each: nine closed facts by the kernel) AND EACH ROW's TIE, after the 31st guide's Derived/Test/Toyas{Tie, Card}.lean. No idea stands in it: it is a product of the set-up. Laid BY PROGRAM, IN A SANDBOX (cutbox-door.mjs). By AI agents, Wed Nov 11 2026. No macro, syntax, notation, axiom, sorry.
-/
import Derived.Test.YtfchfakkbdfajaaDoorRows
import Derived.LaidByTextLater
import Derived.SevenTiedAt
import Derived.LaidSub
import Derived.LaidOnce
namespace Go.Proofs.YtfchfakkbdfajaaDoor
open Go
set_option maxRecDepth 100000
theorem seatTie1 : Tryd.prog.laidByTextLater [("loop.example/g01380/impl.identity", Rows.laid_loop_example_g01380_impl_identity), ("loop.example/g01380/impl.matrixS", Rows.laid_loop_example_g01380_impl_matrixS)] [.data, .data] true :=
  Program.laidByTextLater_by_one 19 8 5 (by kernel_rfl) (by kernel_rfl) (by kernel_rfl) (by kernel_rfl) (by kernel_rfl) (by kernel_rfl) (fun _ _ => by kernel_rfl)
theorem noOwnUnsafe : Tryd.pinned.checked.prog.headLifts.contains "ownunsafe" = false := by kernel_rfl
theorem tie : Tryd.prog.laidByTextLater [("loop.example/g01380/impl.identity", Rows.laid_loop_example_g01380_impl_identity), ("loop.example/g01380/impl.matrixS", Rows.laid_loop_example_g01380_impl_matrixS)] [.data, .data] true :=
  Program.laidByTextLater.sub seatTie1 ["loop.example/g01380/impl.identity", "loop.example/g01380/impl.matrixS"] (by kernel_rfl) (by kernel_rfl)
theorem fnExactLeadPoint_row_tie : Rows.fnExactLeadPointRow.laidByTextAt .later Tryd.pinned [.data, .data] true :=
  OpenClaim.laidByTextAt_later rfl rfl tie noOwnUnsafe
theorem fnExactGenusOf_row_tie : Rows.fnExactGenusOfRow.laidByTextAt .later Tryd.pinned [.data, .data] true :=
  OpenClaim.laidByTextAt_later rfl rfl tie noOwnUnsafe
theorem tie2 : Tryd.prog.laidByTextLater [("loop.example/g01380/impl.matrixS", Rows.laid_loop_example_g01380_impl_matrixS)] [.data] true :=
  Program.laidByTextLater.sub seatTie1 ["loop.example/g01380/impl.matrixS"] (by kernel_rfl) (by kernel_rfl)
theorem fnExactActionOfLevel_row_tie : Rows.fnExactActionOfLevelRow.laidByTextAt .later Tryd.pinned [.data] true :=
  OpenClaim.laidByTextAt_later rfl rfl tie2 noOwnUnsafe
theorem fnExactLeadByMatrix_row_tie : Rows.fnExactLeadByMatrixRow.laidByTextAt .later Tryd.pinned [.data] true :=
  OpenClaim.laidByTextAt_later rfl rfl tie2 noOwnUnsafe
theorem fnExactLeadPointUpto_row_tie : Rows.fnExactLeadPointUptoRow.laidByTextAt .later Tryd.pinned [.data, .data] true :=
  OpenClaim.laidByTextAt_later rfl rfl tie noOwnUnsafe
theorem fnExactActionOfLevelUpto_row_tie : Rows.fnExactActionOfLevelUptoRow.laidByTextAt .later Tryd.pinned [.data] true :=
  OpenClaim.laidByTextAt_later rfl rfl tie2 noOwnUnsafe
theorem fnExactLeadByMatrixUpto_row_tie : Rows.fnExactLeadByMatrixUptoRow.laidByTextAt .later Tryd.pinned [.data] true :=
  OpenClaim.laidByTextAt_later rfl rfl tie2 noOwnUnsafe
theorem fnExactGenusOfUpto_row_tie : Rows.fnExactGenusOfUptoRow.laidByTextAt .later Tryd.pinned [.data, .data] true :=
  OpenClaim.laidByTextAt_later rfl rfl tie noOwnUnsafe
end Go.Proofs.YtfchfakkbdfajaaDoor
