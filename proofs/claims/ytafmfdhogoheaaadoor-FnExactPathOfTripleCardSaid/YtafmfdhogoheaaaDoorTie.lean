/-
  DERIVED. GIVEN WITH THE SEED: THE PROGRAM's TIES (one call each: nine closed facts by the kernel) AND EACH ROW's TIE, after the 31st guide's Derived/Test/Toyas{Tie, Card}.lean. No idea stands in it: it is a product of the set-up. Laid BY PROGRAM, IN A SANDBOX (cutbox-door.mjs). By AI agents, Wed Nov 11 2026. No macro, syntax, notation, axiom, sorry.
-/
import Derived.Test.YtafmfdhogoheaaaDoorRows
import Derived.LaidByTextLater
import Derived.SevenTiedAt
import Derived.LaidSub
import Derived.LaidOnce
namespace Go.Proofs.YtafmfdhogoheaaaDoor
open Go
set_option maxRecDepth 100000
theorem seatTie1 : Tryd.prog.laidByTextLater [("loop.example/g01380/impl.identity", Rows.laid_loop_example_g01380_impl_identity), ("loop.example/g01380/impl.firstTriple", Rows.laid_loop_example_g01380_impl_firstTriple)] [.data, .data] true :=
  Program.laidByTextLater_by_one 19 8 5 (by kernel_rfl) (by kernel_rfl) (by kernel_rfl) (by kernel_rfl) (by kernel_rfl) (by kernel_rfl) (fun _ _ => by kernel_rfl)
theorem noOwnUnsafe : Tryd.pinned.checked.prog.headLifts.contains "ownunsafe" = false := by kernel_rfl
theorem tie : Tryd.prog.laidByTextLater [("loop.example/g01380/impl.firstTriple", Rows.laid_loop_example_g01380_impl_firstTriple)] [.data] true :=
  Program.laidByTextLater.sub seatTie1 ["loop.example/g01380/impl.firstTriple"] (by kernel_rfl) (by kernel_rfl)
theorem fnExactTriplesBelow_row_tie : Rows.fnExactTriplesBelowRow.laidByTextAt .later Tryd.pinned [.data] true :=
  OpenClaim.laidByTextAt_later rfl rfl tie noOwnUnsafe
theorem fnExactMarkovNumbers_row_tie : Rows.fnExactMarkovNumbersRow.laidByTextAt .later Tryd.pinned [.data] true :=
  OpenClaim.laidByTextAt_later rfl rfl tie noOwnUnsafe
theorem fnExactPathOfTriple_row_tie : Rows.fnExactPathOfTripleRow.laidByTextAt .later Tryd.pinned [.data] true :=
  OpenClaim.laidByTextAt_later rfl rfl tie noOwnUnsafe
theorem fnMarkov_row_tie : Rows.fnMarkovRow.laidByTextAt .later Tryd.pinned [.data] true :=
  OpenClaim.laidByTextAt_later rfl rfl tie noOwnUnsafe
theorem tie2 : Tryd.prog.laidByTextLater [("loop.example/g01380/impl.identity", Rows.laid_loop_example_g01380_impl_identity), ("loop.example/g01380/impl.firstTriple", Rows.laid_loop_example_g01380_impl_firstTriple)] [.data, .data] true :=
  Program.laidByTextLater.sub seatTie1 ["loop.example/g01380/impl.identity", "loop.example/g01380/impl.firstTriple"] (by kernel_rfl) (by kernel_rfl)
theorem fnMarkovWords_row_tie : Rows.fnMarkovWordsRow.laidByTextAt .later Tryd.pinned [.data, .data] true :=
  OpenClaim.laidByTextAt_later rfl rfl tie2 noOwnUnsafe
theorem fnExactTriplesBelowUpto_row_tie : Rows.fnExactTriplesBelowUptoRow.laidByTextAt .later Tryd.pinned [.data] true :=
  OpenClaim.laidByTextAt_later rfl rfl tie noOwnUnsafe
theorem fnExactMarkovNumbersUpto_row_tie : Rows.fnExactMarkovNumbersUptoRow.laidByTextAt .later Tryd.pinned [.data] true :=
  OpenClaim.laidByTextAt_later rfl rfl tie noOwnUnsafe
theorem fnExactPathOfTripleUpto_row_tie : Rows.fnExactPathOfTripleUptoRow.laidByTextAt .later Tryd.pinned [.data] true :=
  OpenClaim.laidByTextAt_later rfl rfl tie noOwnUnsafe
theorem fnMarkovUpto_row_tie : Rows.fnMarkovUptoRow.laidByTextAt .later Tryd.pinned [.data] true :=
  OpenClaim.laidByTextAt_later rfl rfl tie noOwnUnsafe
theorem fnMarkovWordsUpto_row_tie : Rows.fnMarkovWordsUptoRow.laidByTextAt .later Tryd.pinned [.data, .data] true :=
  OpenClaim.laidByTextAt_later rfl rfl tie2 noOwnUnsafe
end Go.Proofs.YtafmfdhogoheaaaDoor
