/- spec.ParseFraction: contract. -/
import Derived.Test.YtfgbmddmmgipnaaDoorReadF
namespace Go.Proofs.YtfgbmddmmgipnaaDoor
open Go.ChangeShapes Go.WideShapes Go.ChangeAt Go.RowKit

set_option maxRecDepth 100000 in
set_option maxHeartbeats 2000000 in
theorem specPf_any (s : ByteArray) (hm : s.size ≤ 1048576) (w : World) :
    Calls Tryd.prog 9 #[.string s] w fun e w' => ∃ (p q : Int) (ok : Bool), e = .returned (.tuple #[(.agg #[.int .i64 p, .int .i64 q]), (.int .i64 (if ok = true then 0 else 6))]) ∧ Hid (ReadF (splitL 47 (toL s)) p q ok) ∧ Below w.heap.size w w' := by
  have HR := Lib.hid (readF_any s hm)
  generalize splitL 47 (toL s) = ps at *
  go_enter Tryd.func9, Tryd.ntmps9
  go_wp2_with fail
  refine (HR.out _).mono ?_
  rintro e w1 ⟨p, q, ok, rfl, HX, hb1⟩
  have R0 : Box w1 w.heap.size [.int .i64 0, .int .i64 0] := Box.below (Box.new _ _ _) hb1
  have T1 : Below w.heap.size w w1 := by repeat (first | with_reducible exact own_refl _ | with_reducible assumption | with_reducible apply own_alloc | with_reducible apply own_drewN | with_reducible apply own_drew | ((with_reducible refine own_setCell ?_ ?_ _); rotate_left; focus (first | (simp; done) | (simp; omega))) | (with_reducible (refine own_trans ?_ (by assumption))))
  have R1 := R0.alloc (.cells #[.int .i64 p, .int .i64 q] 29)
  have O1 : Box (w1.alloc (.cells #[.int .i64 p, .int .i64 q] 29)) w1.heap.size [.int .i64 p, .int .i64 q] := Box.new _ _ _
  obtain ⟨_, _, _, _, _⟩ := R0.two
  obtain ⟨_, _, _, _, _⟩ := R1.two
  obtain ⟨_, _, _, _, _⟩ := O1.two
  have hne : ¬ w1.heap.size = w.heap.size := by have := R0.1; omega
  cases ok
  · obtain ⟨_, d0, d1, _, _⟩ := ((R0.put2 (.int .i64 0) (.int .i64 0)).alloc (.cells #[.int .i64 p, .int .i64 q] 29)).two
    go_wp2
    exact bodyPost_ret (v := .tuple #[(.agg #[.int .i64 0, .int .i64 0]), (.int .i64 6)]) (by simp [results, Tryd.results9, go_sem, d0, d1]) rfl ⟨0, 0, false, rfl, Lib.hid (by rcases HX.out with h | h; cases h.1; exact .inr ⟨rfl, rfl, rfl, h.2.2.2⟩), by repeat (first | with_reducible exact own_refl _ | with_reducible assumption | with_reducible apply own_alloc | with_reducible apply own_drewN | with_reducible apply own_drew | ((with_reducible refine own_setCell ?_ ?_ _); rotate_left; focus (first | (simp; done) | (simp; omega))) | (with_reducible (refine own_trans ?_ (by assumption))))⟩
  · obtain ⟨_, d0, d1, _, _⟩ := ((R0.put2 (.int .i64 p) (.int .i64 q)).alloc (.cells #[.int .i64 p, .int .i64 q] 29)).two
    go_wp2
    exact bodyPost_ret (v := .tuple #[(.agg #[.int .i64 p, .int .i64 q]), (.int .i64 0)]) (by simp [results, Tryd.results9, go_sem, d0, d1]) rfl ⟨p, q, true, rfl, HX, by repeat (first | with_reducible exact own_refl _ | with_reducible assumption | with_reducible apply own_alloc | with_reducible apply own_drewN | with_reducible apply own_drew | ((with_reducible refine own_setCell ?_ ?_ _); rotate_left; focus (first | (simp; done) | (simp; omega))) | (with_reducible (refine own_trans ?_ (by assumption))))⟩
end Go.Proofs.YtfgbmddmmgipnaaDoor
