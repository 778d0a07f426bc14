/-
  DERIVED. GIVEN WITH THE SEED: THE PROGRAM's TIES (one call each: nine closed facts by the kernel) AND EACH ROW's TIE, after the 31st guide's Derived/Test/Toyas{Tie, Card}.lean. No idea stands in it: it is a product of the set-up. Laid BY PROGRAM, IN A SANDBOX (cutbox-door.mjs). By AI agents, Wed Nov 11 2026. No macro, syntax, notation, axiom, sorry.
-/
import Derived.Test.YtkeadknbdihkmaaDoorRows
import Derived.LaidByTextLater
import Derived.SevenTiedAt
import Derived.LaidSub
import Derived.LaidOnce
namespace Go.Proofs.YtkeadknbdihkmaaDoor
open Go
set_option maxRecDepth 100000
theorem seatTie1 : Tryd.prog.laidByTextLater [("loop.example/g01380/impl.identity", Rows.laid_loop_example_g01380_impl_identity), ("loop.example/g01380/impl.matrixS", Rows.laid_loop_example_g01380_impl_matrixS), ("loop.example/g01380/impl.firstTriple", Rows.laid_loop_example_g01380_impl_firstTriple)] [.data, .data, .data] true :=
  Program.laidByTextLater_by_one 24 8 5 (by kernel_rfl) (by kernel_rfl) (by kernel_rfl) (by kernel_rfl) (by kernel_rfl) (by kernel_rfl) (fun _ _ => by kernel_rfl)
theorem noOwnUnsafe : Tryd.pinned.checked.prog.headLifts.contains "ownunsafe" = false := by kernel_rfl
theorem tie : Tryd.prog.laidByTextLater [("loop.example/g01380/impl.firstTriple", Rows.laid_loop_example_g01380_impl_firstTriple)] [.data] true :=
  Program.laidByTextLater.sub seatTie1 ["loop.example/g01380/impl.firstTriple"] (by kernel_rfl) (by kernel_rfl)
theorem fnExactDownPath_row_tie : Rows.fnExactDownPathRow.laidByTextAt .later Tryd.pinned [.data] true :=
  OpenClaim.laidByTextAt_later rfl rfl tie noOwnUnsafe
theorem tie2 : Tryd.prog.laidByTextLater [("loop.example/g01380/impl.identity", Rows.laid_loop_example_g01380_impl_identity)] [.data] true :=
  Program.laidByTextLater.sub seatTie1 ["loop.example/g01380/impl.identity"] (by kernel_rfl) (by kernel_rfl)
theorem fnExactTracesOf_row_tie : Rows.fnExactTracesOfRow.laidByTextAt .later Tryd.pinned [.data] true :=
  OpenClaim.laidByTextAt_later rfl rfl tie2 noOwnUnsafe
theorem fnExactMatrixOfLetters_row_tie : Rows.fnExactMatrixOfLettersRow.laidByTextAt .later Tryd.pinned [.data] true :=
  OpenClaim.laidByTextAt_later rfl rfl tie2 noOwnUnsafe
theorem fnExactNumberOfPath_row_tie : Rows.fnExactNumberOfPathRow.laidByTextAt .later Tryd.pinned [.data] true :=
  OpenClaim.laidByTextAt_later rfl rfl tie2 noOwnUnsafe
theorem fnExactTripleOfPath_row_tie : Rows.fnExactTripleOfPathRow.laidByTextAt .later Tryd.pinned [.data] true :=
  OpenClaim.laidByTextAt_later rfl rfl tie2 noOwnUnsafe
theorem fnExactFractionOfPath_row_tie : Rows.fnExactFractionOfPathRow.laidByTextAt .later Tryd.pinned [.data] true :=
  OpenClaim.laidByTextAt_later rfl rfl tie2 noOwnUnsafe
theorem tie3 : Tryd.prog.laidByTextLater [("loop.example/g01380/impl.identity", Rows.laid_loop_example_g01380_impl_identity), ("loop.example/g01380/impl.matrixS", Rows.laid_loop_example_g01380_impl_matrixS)] [.data, .data] true :=
  Program.laidByTextLater.sub seatTie1 ["loop.example/g01380/impl.identity", "loop.example/g01380/impl.matrixS"] (by kernel_rfl) (by kernel_rfl)
theorem fnExactMatrixOfWord_row_tie : Rows.fnExactMatrixOfWordRow.laidByTextAt .later Tryd.pinned [.data, .data] true :=
  OpenClaim.laidByTextAt_later rfl rfl tie3 noOwnUnsafe
theorem fnExactMatrixOfFree_row_tie : Rows.fnExactMatrixOfFreeRow.laidByTextAt .later Tryd.pinned [.data, .data] true :=
  OpenClaim.laidByTextAt_later rfl rfl tie3 noOwnUnsafe
theorem fnExactDownPathUpto_row_tie : Rows.fnExactDownPathUptoRow.laidByTextAt .later Tryd.pinned [.data] true :=
  OpenClaim.laidByTextAt_later rfl rfl tie noOwnUnsafe
theorem fnExactTracesOfUpto_row_tie : Rows.fnExactTracesOfUptoRow.laidByTextAt .later Tryd.pinned [.data] true :=
  OpenClaim.laidByTextAt_later rfl rfl tie2 noOwnUnsafe
theorem fnExactMatrixOfLettersUpto_row_tie : Rows.fnExactMatrixOfLettersUptoRow.laidByTextAt .later Tryd.pinned [.data] true :=
  OpenClaim.laidByTextAt_later rfl rfl tie2 noOwnUnsafe
theorem fnExactNumberOfPathUpto_row_tie : Rows.fnExactNumberOfPathUptoRow.laidByTextAt .later Tryd.pinned [.data] true :=
  OpenClaim.laidByTextAt_later rfl rfl tie2 noOwnUnsafe
theorem fnExactTripleOfPathUpto_row_tie : Rows.fnExactTripleOfPathUptoRow.laidByTextAt .later Tryd.pinned [.data] true :=
  OpenClaim.laidByTextAt_later rfl rfl tie2 noOwnUnsafe
theorem fnExactMatrixOfWordUpto_row_tie : Rows.fnExactMatrixOfWordUptoRow.laidByTextAt .later Tryd.pinned [.data, .data] true :=
  OpenClaim.laidByTextAt_later rfl rfl tie3 noOwnUnsafe
theorem fnExactMatrixOfFreeUpto_row_tie : Rows.fnExactMatrixOfFreeUptoRow.laidByTextAt .later Tryd.pinned [.data, .data] true :=
  OpenClaim.laidByTextAt_later rfl rfl tie3 noOwnUnsafe
theorem fnExactFractionOfPathUpto_row_tie : Rows.fnExactFractionOfPathUptoRow.laidByTextAt .later Tryd.pinned [.data] true :=
  OpenClaim.laidByTextAt_later rfl rfl tie2 noOwnUnsafe
end Go.Proofs.YtkeadknbdihkmaaDoor
