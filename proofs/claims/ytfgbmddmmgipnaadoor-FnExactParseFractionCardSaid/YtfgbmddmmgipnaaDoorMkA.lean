/- A slice of matrices made with room. -/
import Derived.Test.YtfgbmddmmgipnaaDoorGrA
namespace Go.Proofs.YtfgbmddmmgipnaaDoor
open Go.ChangeShapes Go.WideShapes Go.ChangeAt Go.RowKit

theorem makeA (n : Nat) (hn : n ≤ 1000000) : ∃ cur : Array Value, cur.size = n * 4 ∧ ∀ w : World, (Instr.makeSlice 66 (.int .i64 0) (.int .i64 n)).run Tryd.prog w =
    .ok (.slice (some ⟨w.heap.size, 0, none⟩) 0 n) (w.alloc (.cells cur 23)) := by
  obtain ⟨i0, hi, hz0, hz1, hz2⟩ := info_parts info_el
  refine ⟨madeCells (Value.agg #[(.int .i64 0), (.int .i64 0), (.int .i64 0), (.int .i64 0)]).cells (n * 4), size_madeCells _ _, fun w => ?_⟩
  have h := run_make (P := Tryd.prog) (w := w) 66 23 i0 (.agg #[.int .i64 0, .int .i64 0, .int .i64 0, .int .i64 0]) Tryd.underlying66 hi hz0 .i64 .i64 0 n (Int.le_refl _) (by omega) (by rw [hz2]; omega) (by omega)
  rw [h, hz1]
  simp
theorem GrA.madeCap {w : World} {L g n : Nat} {cur : Array Value} (hg : w.heap.size = g) (hL : L ≤ g) (hc : cur.size = n * 4) (hn : n ≤ 1000000) :
    GrA (w.alloc (.cells cur 23)) L (.slice (some ⟨g, 0, none⟩) 0 n) 0 [] := by
  subst hg
  exact World.ownsRow_made w cur n hL (by unfold maxLen; omega) hc
end Go.Proofs.YtfgbmddmmgipnaaDoor
