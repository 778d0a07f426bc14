/- spec.ParseMatrix: contract. -/
import Derived.Test.YtfgbmddmmgipnaaDoorRead
namespace Go.Proofs.YtfgbmddmmgipnaaDoor
open Go.ChangeShapes Go.WideShapes Go.ChangeAt Go.RowKit

set_option maxRecDepth 100000 in
set_option maxHeartbeats 2000000 in
theorem specPm_any (s : ByteArray) (hm : s.size ≤ 1048576) (w : World) :
    Calls Tryd.prog 6 #[.string s] w fun e w' => ∃ (m : Mat) (ok : Bool), e = .returned (.tuple #[(.agg #[.int .i64 m.a, .int .i64 m.b, .int .i64 m.c, .int .i64 m.d]), (.int .i64 (if ok = true then 0 else 6))]) ∧ Hid (ReadM (splitL 44 (toL s)) m ok) ∧ Below w.heap.size w w' := by
  have HR := Lib.hid (read_any s hm)
  generalize splitL 44 (toL s) = ps at *
  go_enter Tryd.func6, Tryd.ntmps6
  go_wp2_with fail
  refine (HR.out _).mono ?_
  rintro e w1 ⟨m, ok, rfl, HX, hb1⟩
  have R0 : Box w1 w.heap.size [.int .i64 0, .int .i64 0, .int .i64 0, .int .i64 0] := Box.below (Box.new _ _ _) hb1
  have T1 : Below w.heap.size w w1 := by repeat (first | with_reducible exact own_refl _ | with_reducible assumption | with_reducible apply own_alloc | with_reducible apply own_drewN | with_reducible apply own_drew | ((with_reducible refine own_setCell ?_ ?_ _); rotate_left; focus (first | (simp; done) | (simp; omega))) | (with_reducible (refine own_trans ?_ (by assumption))))
  have R1 := R0.alloc (.cells #[.int .i64 m.a, .int .i64 m.b, .int .i64 m.c, .int .i64 m.d] 23)
  have O1 : Box (w1.alloc (.cells #[.int .i64 m.a, .int .i64 m.b, .int .i64 m.c, .int .i64 m.d] 23)) w1.heap.size [.int .i64 m.a, .int .i64 m.b, .int .i64 m.c, .int .i64 m.d] := Box.new _ _ _
  obtain ⟨_, _, _, _, _, _, _, _, _⟩ := R0.four
  obtain ⟨_, _, _, _, _, _, _, _, _⟩ := R1.four
  obtain ⟨_, _, _, _, _, _, _, _, _⟩ := O1.four
  have hne : ¬ w1.heap.size = w.heap.size := by have := R0.1; omega
  cases ok
  · obtain ⟨_, d0, d1, d2, d3, _, _, _, _⟩ := ((R0.put4 (.int .i64 0) (.int .i64 0) (.int .i64 0) (.int .i64 0)).alloc (.cells #[.int .i64 m.a, .int .i64 m.b, .int .i64 m.c, .int .i64 m.d] 23)).four
    go_wp2
    exact bodyPost_ret (v := .tuple #[(.agg #[.int .i64 0, .int .i64 0, .int .i64 0, .int .i64 0]), (.int .i64 6)]) (by simp [results, Tryd.results6, go_sem, d0, d1, d2, d3]) rfl ⟨Mat.zero, false, rfl, Lib.hid (by rcases HX.out with h | h; cases h.1; exact .inr ⟨rfl, rfl, h.2.2⟩), by repeat (first | with_reducible exact own_refl _ | with_reducible assumption | with_reducible apply own_alloc | with_reducible apply own_drewN | with_reducible apply own_drew | ((with_reducible refine own_setCell ?_ ?_ _); rotate_left; focus (first | (simp; done) | (simp; omega))) | (with_reducible (refine own_trans ?_ (by assumption))))⟩
  · obtain ⟨_, d0, d1, d2, d3, _, _, _, _⟩ := ((R0.put4 (.int .i64 m.a) (.int .i64 m.b) (.int .i64 m.c) (.int .i64 m.d)).alloc (.cells #[.int .i64 m.a, .int .i64 m.b, .int .i64 m.c, .int .i64 m.d] 23)).four
    go_wp2
    exact bodyPost_ret (v := .tuple #[(.agg #[.int .i64 m.a, .int .i64 m.b, .int .i64 m.c, .int .i64 m.d]), (.int .i64 0)]) (by simp [results, Tryd.results6, go_sem, d0, d1, d2, d3]) rfl ⟨m, true, rfl, HX, by repeat (first | with_reducible exact own_refl _ | with_reducible assumption | with_reducible apply own_alloc | with_reducible apply own_drewN | with_reducible apply own_drew | ((with_reducible refine own_setCell ?_ ?_ _); rotate_left; focus (first | (simp; done) | (simp; omega))) | (with_reducible (refine own_trans ?_ (by assumption))))⟩
end Go.Proofs.YtfgbmddmmgipnaaDoor
