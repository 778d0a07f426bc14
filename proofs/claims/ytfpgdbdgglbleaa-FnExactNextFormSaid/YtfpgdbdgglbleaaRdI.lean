/- Contracts of the program's tests for reduced forms. -/
import Derived.Test.YtfpgdbdgglbleaaRdq
namespace Go.Proofs.Ytfpgdbdgglbleaa
open Go.ChangeShapes Go.WideShapes Go.ChangeAt Go.RowKit

set_option maxHeartbeats 2000000 in
theorem isRD_no (a b c : Int) (ht : (decide (disc a b c < 0) && decide (0 < a)) = false) (ha : FE a) (hb : FE b) (hc : FE c) (w : World) :
    Calls Try.prog 62 #[(.agg #[.int .i64 a, .int .i64 b, .int .i64 c])] w fun e w' => e = .returned (.bool false) ∧ Below w.heap.size w w' := by
  have HD := Lib.hid (fun w => isDefinite_is false a b c ht ha hb hc w)
  clear ht ha hb hc
  go_enter Try.func62, Try.ntmps62
  go_upto_region 1 with fail
  have BF : Box (w.alloc (.cells #[.int .i64 a, .int .i64 b, .int .i64 c] 24)) w.heap.size [.int .i64 a, .int .i64 b, .int .i64 c] := Box.new _ _ _
  obtain ⟨_, _, _, _, _, _, _⟩ := BF.three
  go_quiet (fail)
  have BF := Box.drewN BF nq
  obtain ⟨_, _, _, _, _, _, _⟩ := BF.three
  go_wp2_with fail
  refine (HD.out _).mono ?_
  rintro e w1 ⟨rfl, hb1⟩
  go_wp2
  go_ret
  exact ⟨rfl, by repeat (first | with_reducible exact own_refl _ | with_reducible assumption | with_reducible apply own_alloc | with_reducible apply own_drewN | with_reducible apply own_drew | ((with_reducible refine own_setCell ?_ ?_ _); rotate_left; focus (first | (simp; done) | (simp; omega))) | (with_reducible (refine own_trans ?_ (by assumption))))⟩
set_option maxHeartbeats 2000000 in
theorem isRD_is (t : Bool) (a b c : Int) (h1 : disc a b c < 0) (h2 : 0 < a) (ht : redD a b c = t) (ha : FE a) (hb : FE b) (hc : FE c) (w : World) :
    Calls Try.prog 62 #[(.agg #[.int .i64 a, .int .i64 b, .int .i64 c])] w fun e w' => e = .returned (.bool t) ∧ Below w.heap.size w w' := by
  have HD := Lib.hid (fun w => isDefinite_is true a b c (by simp [h1, h2]) ha hb hc w)
  have kb : -1000000 ≤ b ∧ b ≤ 1000000 := hb
  have HA := Lib.hid (fun w => absolute_any b (by omega) (by omega) w)
  have hn : (0 : Int) ≤ (b.natAbs : Int) ∧ (b.natAbs : Int) ≤ 1000000 := by omega
  clear h1 ha hb hc
  rcases redD_cases a b c t ht with ⟨k1, rfl⟩ | ⟨k1, k2, rfl⟩ | ⟨k1, k2, k3, rfl⟩ | ⟨k1, k2, k3, k4, rfl⟩ | ⟨k1, k2, k3, k4, k5, rfl⟩ | ⟨k1, k2, k3, k4, rfl⟩
  all_goals
    clear ht
    go_enter Try.func62, Try.ntmps62
    go_upto_region 1 with fail
    have BF : Box (w.alloc (.cells #[.int .i64 a, .int .i64 b, .int .i64 c] 24)) w.heap.size [.int .i64 a, .int .i64 b, .int .i64 c] := Box.new _ _ _
    obtain ⟨_, _, _, _, _, _, _⟩ := BF.three
    go_quiet (fail)
    have BF := Box.drewN BF nq
    obtain ⟨_, _, _, _, _, _, _⟩ := BF.three
    go_wp2_with fail
    refine (HD.out _).mono ?_
    rintro e w1 ⟨rfl, hb1⟩
    go_wp2_with fail
    refine (HA.out _).mono ?_
    rintro e w2 ⟨rfl, rfl⟩
    go_wp2
    go_ret
    exact ⟨by first | (apply ret_bool; simp; done) | (apply ret_bool; simp; omega), by repeat (first | with_reducible exact own_refl _ | with_reducible assumption | with_reducible apply own_alloc | with_reducible apply own_drewN | with_reducible apply own_drew | ((with_reducible refine own_setCell ?_ ?_ _); rotate_left; focus (first | (simp; done) | (simp; omega))) | (with_reducible (refine own_trans ?_ (by assumption))))⟩
set_option maxHeartbeats 2000000 in
theorem isRI_no (a b c : Int) (h : indef a b c = false) (ha : FE a) (hb : FE b) (hc : FE c) (w : World) :
    Calls Try.prog 54 #[(.agg #[.int .i64 a, .int .i64 b, .int .i64 c])] w fun e w' => e = .returned (.bool false) ∧ Below w.heap.size w w' := by
  have HI := Lib.hid (fun w => isIndefinite_is false a b c h ha hb hc w)
  clear h ha hb hc
  go_enter Try.func54, Try.ntmps54
  go_wp2_with fail
  refine (HI.out _).mono ?_
  rintro e w1 ⟨rfl, hb1⟩
  go_wp2
  go_ret
  exact ⟨rfl, by repeat (first | with_reducible exact own_refl _ | with_reducible assumption | with_reducible apply own_alloc | with_reducible apply own_drewN | with_reducible apply own_drew | ((with_reducible refine own_setCell ?_ ?_ _); rotate_left; focus (first | (simp; done) | (simp; omega))) | (with_reducible (refine own_trans ?_ (by assumption))))⟩
set_option maxHeartbeats 2000000 in
theorem isRI_is (t : Bool) (a b c : Int) (h : indef a b c = true) (ht : rdI a b c = t) (ha : FE a) (hb : FE b) (hc : FE c) (w : World) :
    Calls Try.prog 54 #[(.agg #[.int .i64 a, .int .i64 b, .int .i64 c])] w fun e w' => e = .returned (.bool t) ∧ Below w.heap.size w w' := by
  have HI := Lib.hid (fun w => isIndefinite_is true a b c h ha hb hc w)
  have hbd := (disc_bd ha hb hc).2
  have kb : -1000000 ≤ b ∧ b ≤ 1000000 := hb
  have ka : -1000000 ≤ a ∧ a ≤ 1000000 := ha
  unfold rdI at ht
  obtain ⟨d, hd⟩ : ∃ d, disc a b c = d := ⟨_, rfl⟩
  rw [hd] at ht hbd
  have HD := Lib.hid (fun w => discriminant_is d a b c hd ha hb hc w)
  obtain ⟨m, hm⟩ : ∃ m : Int, m = (a.natAbs : Int) := ⟨_, rfl⟩
  have HA := Lib.hid (fun w => (hm ▸ absolute_any a (by omega) (by omega) w : Calls Try.prog 64 #[(.int .i64 a)] w fun e w' => e = .returned (.int .i64 m) ∧ w = w'))
  clear hd ha hb hc h
  have hm0 : 0 ≤ m ∧ m ≤ 1000000 := by omega
  rw [← hm] at ht
  clear hm
  have k0 := redI_cases _ b d t ht
  have p1 := mul_bd (a := b) (d := b) (A := 1000000) (D := 1000000) (by omega) (by omega)
  have p2 := mul_bd (a := 2 * m + b) (d := 2 * m + b) (A := 3000000) (D := 3000000) (by omega) (by omega)
  have p3 := mul_bd (a := 2 * m - b) (d := 2 * m - b) (A := 3000000) (D := 3000000) (by omega) (by omega)
  have mw := wrap_in (x := 2 * m) (by omega)
  clear ht
  rcases k0 with ⟨k1, rfl⟩ | ⟨k1, k2, rfl⟩ | ⟨k1, k2, k3, rfl⟩ | ⟨k1, k2, k3, k4, rfl⟩ | ⟨k1, k2, k3, k4, k5, rfl⟩ | ⟨k1, k2, k3, k4, k5, rfl⟩
  all_goals
    go_enter Try.func54, Try.ntmps54
    go_wp2_with fail
    refine (HI.out _).mono ?_
    rintro e w1 ⟨rfl, hb1⟩
    have T : Below w.heap.size w w1 := by repeat (first | with_reducible exact own_refl _ | with_reducible assumption | with_reducible apply own_alloc | with_reducible apply own_drewN | with_reducible apply own_drew | ((with_reducible refine own_setCell ?_ ?_ _); rotate_left; focus (first | (simp; done) | (simp; omega))) | (with_reducible (refine own_trans ?_ (by assumption))))
    have Bw1_0 : Box w1 (w.heap.size) [.int .i64 a, .int .i64 b, .int .i64 c] := by refine Box.below ?_ hb1; repeat (first | with_reducible assumption | with_reducible exact Box.new _ _ _ | (with_reducible refine Box.newAt ?_ _ _; (simp; done)) | with_reducible apply Box.alloc | with_reducible apply Box.drewN | with_reducible apply Box.drew)
    obtain ⟨_, _, _, _, _, _, _⟩ := Bw1_0.three
    have BF := Bw1_0
    go_upto_region 3 with fail
    go_region_held3 (fun w' => w'.cell? ⟨w.heap.size, 0, none⟩ = some (.int .i64 a) ∧ w'.cell? ⟨w.heap.size, 1, none⟩ = some (.int .i64 b) ∧ w'.cell? ⟨w.heap.size, 2, none⟩ = some (.int .i64 c)) (go_keep)
      (first
        | (go_at_call 36; refine (HD.out _).mono ?_; rintro e w2 ⟨rfl, hb2⟩; have T := (by first | exact own_trans T hb2 | exact own_trans (own_drew T) hb2 : Below w.heap.size w w2); have BF := Box.below (by first | exact BF | exact Box.drew BF) hb2; obtain ⟨_, _, _, _, _, _, _⟩ := BF.three)
        | (go_at_call 64; refine (HA.out _).mono ?_; rintro e w3 ⟨rfl, rfl⟩))
  all_goals
    go_wp2
    go_ret
    exact ⟨by first | rfl | (apply ret_bool; simp; omega), by first | exact T | exact own_drew T⟩
set_option maxHeartbeats 1000000 in
theorem isReduced_D (t : Bool) (a b c : Int) (h1 : disc a b c < 0) (h2 : 0 < a) (ht : redD a b c = t) (ha : FE a) (hb : FE b) (hc : FE c) (w : World) :
    Calls Try.prog 51 #[(.agg #[.int .i64 a, .int .i64 b, .int .i64 c])] w fun e w' => e = .returned (.bool t) ∧ Below w.heap.size w w' := by
  have HD := Lib.hid (fun w => isRD_is t a b c h1 h2 ht ha hb hc w)
  have HN := Lib.hid (fun w => isRI_no a b c (by unfold indef; simp; omega) ha hb hc w)
  clear h1 h2 ht ha hb hc
  cases t
  all_goals
    go_enter Try.func51, Try.ntmps51
    go_wp2_with fail
    refine (HD.out _).mono ?_
    rintro e w1 ⟨rfl, hb1⟩
    have Bw1_0 : Box w1 (w.heap.size) [.int .i64 a, .int .i64 b, .int .i64 c] := by refine Box.below ?_ hb1; repeat (first | with_reducible assumption | with_reducible exact Box.new _ _ _ | (with_reducible refine Box.newAt ?_ _ _; (simp; done)) | with_reducible apply Box.alloc | with_reducible apply Box.drewN | with_reducible apply Box.drew)
    obtain ⟨_, _, _, _, _, _, _⟩ := Bw1_0.three
    go_wp2_with (go_at_call 54; refine (HN.out _).mono ?_; rintro e w2 ⟨rfl, hb2⟩)
    go_ret
    exact ⟨rfl, by repeat (first | with_reducible exact own_refl _ | with_reducible assumption | with_reducible apply own_alloc | with_reducible apply own_drewN | with_reducible apply own_drew | ((with_reducible refine own_setCell ?_ ?_ _); rotate_left; focus (first | (simp; done) | (simp; omega))) | (with_reducible (refine own_trans ?_ (by assumption))))⟩
set_option maxHeartbeats 1000000 in
theorem isReduced_I (t : Bool) (a b c : Int) (h : indef a b c = true) (ht : rdI a b c = t) (ha : FE a) (hb : FE b) (hc : FE c) (w : World) :
    Calls Try.prog 51 #[(.agg #[.int .i64 a, .int .i64 b, .int .i64 c])] w fun e w' => e = .returned (.bool t) ∧ Below w.heap.size w w' := by
  have HD := Lib.hid (fun w => isRD_no a b c (by unfold indef at h; simp at h; simp; omega) ha hb hc w)
  have HN := Lib.hid (fun w => isRI_is t a b c h ht ha hb hc w)
  clear h ht ha hb hc
  go_enter Try.func51, Try.ntmps51
  go_wp2_with fail
  refine (HD.out _).mono ?_
  rintro e w1 ⟨rfl, hb1⟩
  have Bw1_0 : Box w1 (w.heap.size) [.int .i64 a, .int .i64 b, .int .i64 c] := by refine Box.below ?_ hb1; repeat (first | with_reducible assumption | with_reducible exact Box.new _ _ _ | (with_reducible refine Box.newAt ?_ _ _; (simp; done)) | with_reducible apply Box.alloc | with_reducible apply Box.drewN | with_reducible apply Box.drew)
  obtain ⟨_, _, _, _, _, _, _⟩ := Bw1_0.three
  go_wp2_with fail
  refine (HN.out _).mono ?_
  rintro e w2 ⟨rfl, hb2⟩
  go_wp2
  go_ret
  exact ⟨rfl, by repeat (first | with_reducible exact own_refl _ | with_reducible assumption | with_reducible apply own_alloc | with_reducible apply own_drewN | with_reducible apply own_drew | ((with_reducible refine own_setCell ?_ ?_ _); rotate_left; focus (first | (simp; done) | (simp; omega))) | (with_reducible (refine own_trans ?_ (by assumption))))⟩
end Go.Proofs.Ytfpgdbdgglbleaa
