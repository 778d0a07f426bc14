/- Contracts of the program's tests for reduced forms. -/
import Derived.Test.YtfpgdbdgglbleaaDoorRdq
namespace Go.Proofs.YtfpgdbdgglbleaaDoor
open Go.ChangeShapes Go.WideShapes Go.ChangeAt Go.RowKit

set_option maxHeartbeats 2000000 in
theorem isRD_no (a b c : Int) (ht : (decide (disc a b c < 0) && decide (0 < a)) = false) (ha : FE a) (hb : FE b) (hc : FE c) (w : World) :
    Calls Tryd.prog 39 #[(.agg #[.int .i64 a, .int .i64 b, .int .i64 c])] w fun e w' => e = .returned (.bool false) ∧ Below w.heap.size w w' := by
  have HD := Lib.hid (fun w => isDefinite_is false a b c ht ha hb hc w)
  clear ht ha hb hc
  go_enter Tryd.func39, Tryd.ntmps39
  go_upto_region 1 with fail
  have BF : Box (w.alloc (.cells #[.int .i64 a, .int .i64 b, .int .i64 c] 24)) w.heap.size [.int .i64 a, .int .i64 b, .int .i64 c] := Box.new _ _ _
  obtain ⟨_, _, _, _, _, _, _⟩ := BF.three
  go_quiet (fail)
  have BF := Box.drewN BF nq
  obtain ⟨_, _, _, _, _, _, _⟩ := BF.three
  go_wp2_with fail
  refine (HD.out _).mono ?_
  rintro e w1 ⟨rfl, hb1⟩
  go_wp2
  go_ret
  exact ⟨rfl, by repeat (first | with_reducible exact own_refl _ | with_reducible assumption | with_reducible apply own_alloc | with_reducible apply own_drewN | with_reducible apply own_drew | ((with_reducible refine own_setCell ?_ ?_ _); rotate_left; focus (first | (simp; done) | (simp; omega))) | (with_reducible (refine own_trans ?_ (by assumption))))⟩
set_option maxHeartbeats 2000000 in
theorem isRD_is (t : Bool) (a b c : Int) (h1 : disc a b c < 0) (h2 : 0 < a) (ht : redD a b c = t) (ha : FE a) (hb : FE b) (hc : FE c) (w : World) :
    Calls Tryd.prog 39 #[(.agg #[.int .i64 a, .int .i64 b, .int .i64 c])] w fun e w' => e = .returned (.bool t) ∧ Below w.heap.size w w' := by
  have HD := Lib.hid (fun w => isDefinite_is true a b c (by simp [h1, h2]) ha hb hc w)
  have kb : -1000000 ≤ b ∧ b ≤ 1000000 := hb
  have HA := Lib.hid (fun w => absolute_any b (by omega) (by omega) w)
  have hn : (0 : Int) ≤ (b.natAbs : Int) ∧ (b.natAbs : Int) ≤ 1000000 := by omega
  clear h1 ha hb hc
  rcases redD_cases a b c t ht with ⟨k1, rfl⟩ | ⟨k1, k2, rfl⟩ | ⟨k1, k2, k3, rfl⟩ | ⟨k1, k2, k3, k4, rfl⟩ | ⟨k1, k2, k3, k4, k5, rfl⟩ | ⟨k1, k2, k3, k4, rfl⟩
  all_goals
    clear ht
    go_enter Tryd.func39, Tryd.ntmps39
    go_upto_region 1 with fail
    have BF : Box (w.alloc (.cells #[.int .i64 a, .int .i64 b, .int .i64 c] 24)) w.heap.size [.int .i64 a, .int .i64 b, .int .i64 c] := Box.new _ _ _
    obtain ⟨_, _, _, _, _, _, _⟩ := BF.three
    go_quiet (fail)
    have BF := Box.drewN BF nq
    obtain ⟨_, _, _, _, _, _, _⟩ := BF.three
    go_wp2_with fail
    refine (HD.out _).mono ?_
    rintro e w1 ⟨rfl, hb1⟩
    go_wp2_with fail
    refine (HA.out _).mono ?_
    rintro e w2 ⟨rfl, rfl⟩
    go_wp2
    go_ret
    exact ⟨by first | (apply ret_bool; simp; done) | (apply ret_bool; simp; omega), by repeat (first | with_reducible exact own_refl _ | with_reducible assumption | with_reducible apply own_alloc | with_reducible apply own_drewN | with_reducible apply own_drew | ((with_reducible refine own_setCell ?_ ?_ _); rotate_left; focus (first | (simp; done) | (simp; omega))) | (with_reducible (refine own_trans ?_ (by assumption))))⟩
end Go.Proofs.YtfpgdbdgglbleaaDoor
