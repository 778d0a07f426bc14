/- The walk of the law FnExactKeepsForm. -/
import Derived.Test.YtfpgdbdgglbleaaLwKeepsForm
import Derived.Test.YtfpgdbdgglbleaaApl
namespace Go.Proofs.Ytfpgdbdgglbleaa
open Go.ChangeShapes Go.WideShapes Go.ChangeAt Go.RowKit

set_option maxHeartbeats 4000000 in
theorem implKF_yes (t : Bool) (a b c p q r s u v z : Int) (ht : decide (u = a ∧ v = b ∧ z = c) = t) (hu : vq a b c p r = u) (hv : mq a b c p q r s = v) (hz : vq a b c q s = z) (ha : FE a) (hb : FE b) (hc : FE c) (hp : FE p) (hq : FE q) (hr : FE r) (hs : FE s)
    (hc0 : ∀ w : World, Calls Try.prog 43 #[(.agg #[.int .i64 a, .int .i64 b, .int .i64 c]), (.agg #[.int .i64 p, .int .i64 q, .int .i64 r, .int .i64 s])] w fun e w' => e = .returned (.int .i64 0) ∧ Below w.heap.size w w') (w : World) :
    Calls Try.prog 23 #[(.agg #[.int .i64 a, .int .i64 b, .int .i64 c]), (.agg #[.int .i64 p, .int .i64 q, .int .i64 r, .int .i64 s])] w fun e w' => e = .returned (.tuple #[.bool t, (.int .i64 0)]) ∧ Below w.heap.size w w' := by
  have HC := Lib.hid hc0
  have q0 := fun w => eq_form_is t u v z a b c ht w
  have HF := Lib.hid (fun w => formMadeBy_is u v z a b c p q r s hu hv hz ha hb hc hp hq hr hs w)
  clear hu hv hz ha hb hc hp hq hr hs hc0 ht
  go_enter Try.func23, Try.ntmps23
  go_wp2_with fail
  refine (HC.out _).mono ?_
  rintro e w1 ⟨rfl, hb1⟩
  have T : Below w.heap.size w w1 := by repeat (first | with_reducible exact own_refl _ | with_reducible assumption | with_reducible apply own_alloc | with_reducible apply own_drewN | with_reducible apply own_drew | ((with_reducible refine own_setCell ?_ ?_ _); rotate_left; focus (first | (simp; done) | (simp; omega))) | (with_reducible (refine own_trans ?_ (by assumption))))
  have Bw1_0 : Box w1 (w.heap.size) [.int .i64 a, .int .i64 b, .int .i64 c] := by refine Box.below ?_ hb1; repeat (first | with_reducible assumption | with_reducible exact Box.new _ _ _ | (with_reducible refine Box.newAt ?_ _ _; (simp; done)) | with_reducible apply Box.alloc | with_reducible apply Box.drewN | with_reducible apply Box.drew)
  obtain ⟨_, _, _, _, _, _, _⟩ := Bw1_0.three
  have Bw1_1 : Box w1 (w.heap.size + 1) [.int .i64 p, .int .i64 q, .int .i64 r, .int .i64 s] := by refine Box.below ?_ hb1; repeat (first | with_reducible assumption | with_reducible exact Box.new _ _ _ | (with_reducible refine Box.newAt ?_ _ _; (simp; done)) | with_reducible apply Box.alloc | with_reducible apply Box.drewN | with_reducible apply Box.drew)
  obtain ⟨_, _, _, _, _, _, _, _, _⟩ := Bw1_1.four
  have BF := Bw1_0
  have BM := Bw1_1
  go_upto_region 4 with fail
  go_cut [4, 5] (fun s4 s5 wx => s4 = .bool t ∧ s5 = (.int .i64 0) ∧ Below w.heap.size w wx)
  case first =>
    go_region_held3 (fun w' => w'.cell? ⟨w.heap.size, 0, none⟩ = some (.int .i64 a) ∧ w'.cell? ⟨w.heap.size, 1, none⟩ = some (.int .i64 b) ∧ w'.cell? ⟨w.heap.size, 2, none⟩ = some (.int .i64 c) ∧
        w'.cell? ⟨w.heap.size + 1, 0, none⟩ = some (.int .i64 p) ∧ w'.cell? ⟨w.heap.size + 1, 1, none⟩ = some (.int .i64 q) ∧ w'.cell? ⟨w.heap.size + 1, 2, none⟩ = some (.int .i64 r) ∧ w'.cell? ⟨w.heap.size + 1, 3, none⟩ = some (.int .i64 s)) (go_keep)
      (first
        | (go_at_call 45; refine (HF.out _).mono ?_; rintro e w2 ⟨rfl, hb2⟩; have T := (by first | exact own_trans T hb2 | exact own_trans (own_drew T) hb2 : Below w.heap.size w w2); have BF := Box.below (by first | exact BF | exact Box.drew BF) hb2; have BM := Box.below (by first | exact BM | exact Box.drew BM) hb2; obtain ⟨_, _, _, _, _, _, _⟩ := BF.three; obtain ⟨_, _, _, _, _, _, _, _, _⟩ := BM.four))
    all_goals
      go_wp2_with fail
      go_meet
      exact ⟨rfl, rfl, T⟩
  case rest =>
    obtain ⟨rfl, rfl, T⟩ := hcut
    go_wp2
    go_ret2
    exact ⟨rfl, T⟩
set_option maxHeartbeats 1000000 in
theorem implKF_no (k : Int) (a b c p q r s : Int) (hk : (k != 0) = true) (hc : ∀ w : World, Calls Try.prog 43 #[(.agg #[.int .i64 a, .int .i64 b, .int .i64 c]), (.agg #[.int .i64 p, .int .i64 q, .int .i64 r, .int .i64 s])] w fun e w' => e = .returned (.int .i64 k) ∧ Below w.heap.size w w') (w : World) :
    Calls Try.prog 23 #[(.agg #[.int .i64 a, .int .i64 b, .int .i64 c]), (.agg #[.int .i64 p, .int .i64 q, .int .i64 r, .int .i64 s])] w fun e w' => e = .returned (.tuple #[.bool false, (.int .i64 k)]) ∧ Below w.heap.size w w' := by
  have HC := Lib.hid hc
  clear hc
  go_enter Try.func23, Try.ntmps23
  go_wp2_with fail
  refine (HC.out _).mono ?_
  rintro e w1 ⟨rfl, hb1⟩
  go_wp2
  go_ret2
  exact ⟨rfl, by repeat (first | with_reducible exact own_refl _ | with_reducible assumption | with_reducible apply own_alloc | with_reducible apply own_drewN | with_reducible apply own_drew | ((with_reducible refine own_setCell ?_ ?_ _); rotate_left; focus (first | (simp; done) | (simp; omega))) | (with_reducible (refine own_trans ?_ (by assumption))))⟩
set_option maxHeartbeats 4000000 in
theorem specKF_yes (t : Bool) (a b c p q r s u v z : Int) (ht : decide (u = a ∧ v = b ∧ z = c) = t) (hu : vq a b c p r = u) (hv : mq a b c p q r s = v) (hz : vq a b c q s = z) (ha : FE a) (hb : FE b) (hc : FE c) (hp : FE p) (hq : FE q) (hr : FE r) (hs : FE s)
    (hc0 : ∀ w : World, Calls Try.prog 41 #[(.agg #[.int .i64 a, .int .i64 b, .int .i64 c]), (.agg #[.int .i64 p, .int .i64 q, .int .i64 r, .int .i64 s])] w fun e w' => e = .returned (.int .i64 0) ∧ Below w.heap.size w w') (w : World) :
    Calls Try.prog 22 #[(.agg #[.int .i64 a, .int .i64 b, .int .i64 c]), (.agg #[.int .i64 p, .int .i64 q, .int .i64 r, .int .i64 s])] w fun e w' => e = .returned (.tuple #[.bool t, (.int .i64 0)]) ∧ Below w.heap.size w w' := by
  have HC := Lib.hid hc0
  have q0 := fun w => eq_form_is t u v z a b c ht w
  have HF := Lib.hid (fun w => l05Apply_is u v z a b c p q r s hu hv hz ha hb hc hp hq hr hs w)
  clear hu hv hz ha hb hc hp hq hr hs hc0 ht
  go_enter Try.func22, Try.ntmps22
  go_wp2_with fail
  refine (HC.out _).mono ?_
  rintro e w1 ⟨rfl, hb1⟩
  have T : Below w.heap.size w w1 := by repeat (first | with_reducible exact own_refl _ | with_reducible assumption | with_reducible apply own_alloc | with_reducible apply own_drewN | with_reducible apply own_drew | ((with_reducible refine own_setCell ?_ ?_ _); rotate_left; focus (first | (simp; done) | (simp; omega))) | (with_reducible (refine own_trans ?_ (by assumption))))
  have Bw1_0 : Box w1 (w.heap.size) [.int .i64 a, .int .i64 b, .int .i64 c] := by refine Box.below ?_ hb1; repeat (first | with_reducible assumption | with_reducible exact Box.new _ _ _ | (with_reducible refine Box.newAt ?_ _ _; (simp; done)) | with_reducible apply Box.alloc | with_reducible apply Box.drewN | with_reducible apply Box.drew)
  obtain ⟨_, _, _, _, _, _, _⟩ := Bw1_0.three
  have Bw1_1 : Box w1 (w.heap.size + 1) [.int .i64 p, .int .i64 q, .int .i64 r, .int .i64 s] := by refine Box.below ?_ hb1; repeat (first | with_reducible assumption | with_reducible exact Box.new _ _ _ | (with_reducible refine Box.newAt ?_ _ _; (simp; done)) | with_reducible apply Box.alloc | with_reducible apply Box.drewN | with_reducible apply Box.drew)
  obtain ⟨_, _, _, _, _, _, _, _, _⟩ := Bw1_1.four
  have BF := Bw1_0
  have BM := Bw1_1
  go_upto_region 4 with fail
  go_cut [4, 5] (fun s4 s5 wx => s4 = .bool t ∧ s5 = (.int .i64 0) ∧ Below w.heap.size w wx)
  case first =>
    go_region_held3 (fun w' => w'.cell? ⟨w.heap.size, 0, none⟩ = some (.int .i64 a) ∧ w'.cell? ⟨w.heap.size, 1, none⟩ = some (.int .i64 b) ∧ w'.cell? ⟨w.heap.size, 2, none⟩ = some (.int .i64 c) ∧
        w'.cell? ⟨w.heap.size + 1, 0, none⟩ = some (.int .i64 p) ∧ w'.cell? ⟨w.heap.size + 1, 1, none⟩ = some (.int .i64 q) ∧ w'.cell? ⟨w.heap.size + 1, 2, none⟩ = some (.int .i64 r) ∧ w'.cell? ⟨w.heap.size + 1, 3, none⟩ = some (.int .i64 s)) (go_keep)
      (first
        | (go_at_call 42; refine (HF.out _).mono ?_; rintro e w2 ⟨rfl, hb2⟩; have T := (by first | exact own_trans T hb2 | exact own_trans (own_drew T) hb2 : Below w.heap.size w w2); have BF := Box.below (by first | exact BF | exact Box.drew BF) hb2; have BM := Box.below (by first | exact BM | exact Box.drew BM) hb2; obtain ⟨_, _, _, _, _, _, _⟩ := BF.three; obtain ⟨_, _, _, _, _, _, _, _, _⟩ := BM.four))
    all_goals
      go_wp2_with fail
      go_meet
      exact ⟨rfl, rfl, T⟩
  case rest =>
    obtain ⟨rfl, rfl, T⟩ := hcut
    go_wp2
    go_ret2
    exact ⟨rfl, T⟩
set_option maxHeartbeats 1000000 in
theorem specKF_no (k : Int) (a b c p q r s : Int) (hk : (k != 0) = true) (hc : ∀ w : World, Calls Try.prog 41 #[(.agg #[.int .i64 a, .int .i64 b, .int .i64 c]), (.agg #[.int .i64 p, .int .i64 q, .int .i64 r, .int .i64 s])] w fun e w' => e = .returned (.int .i64 k) ∧ Below w.heap.size w w') (w : World) :
    Calls Try.prog 22 #[(.agg #[.int .i64 a, .int .i64 b, .int .i64 c]), (.agg #[.int .i64 p, .int .i64 q, .int .i64 r, .int .i64 s])] w fun e w' => e = .returned (.tuple #[.bool false, (.int .i64 k)]) ∧ Below w.heap.size w w' := by
  have HC := Lib.hid hc
  clear hc
  go_enter Try.func22, Try.ntmps22
  go_wp2_with fail
  refine (HC.out _).mono ?_
  rintro e w1 ⟨rfl, hb1⟩
  go_wp2
  go_ret2
  exact ⟨rfl, by repeat (first | with_reducible exact own_refl _ | with_reducible assumption | with_reducible apply own_alloc | with_reducible apply own_drewN | with_reducible apply own_drew | ((with_reducible refine own_setCell ?_ ?_ _); rotate_left; focus (first | (simp; done) | (simp; omega))) | (with_reducible (refine own_trans ?_ (by assumption))))⟩
theorem lawKeepsForm_walk (a b c p q r s : Int) (_ : I64 a) (_ : I64 b) (_ : I64 c) (_ : I64 p) (_ : I64 q) (_ : I64 r) (_ : I64 s) (w : World) :
    Calls Try.prog 7 #[(.agg #[.int .i64 a, .int .i64 b, .int .i64 c]), (.agg #[.int .i64 p, .int .i64 q, .int .i64 r, .int .i64 s])] w fun e w' => e = .returned (.bool true) ∧ Below w.heap.size w w' := by
  rcases h : isQ a b c with _ | _
  · exact lawKeepsForm_of a b c p q r s 1 false (fun w => specKF_no 1 a b c p q r s rfl (fun w => l05Code_q a b c p q r s h w) w) (fun w => implKF_no 1 a b c p q r s rfl (fun w => checkApplied_q a b c p q r s h w) w) w
  rcases hm : isM p q r s with _ | _
  · exact lawKeepsForm_of a b c p q r s 1 false (fun w => specKF_no 1 a b c p q r s rfl (fun w => l05Code_m a b c p q r s h hm w) w) (fun w => implKF_no 1 a b c p q r s rfl (fun w => checkApplied_m a b c p q r s h hm w) w) w
  rcases hk : allW [p, q, r, s] 1000 with _ | _
  · exact lawKeepsForm_of a b c p q r s 2 false (fun w => specKF_no 2 a b c p q r s rfl (fun w => l05Code_all false 2 a b c p q r s h hm hk rfl w) w) (fun w => implKF_no 2 a b c p q r s rfl (fun w => checkApplied_k a b c p q r s h hm hk w) w) w
  obtain ⟨ha, hb, hc, hn⟩ := isQ_fe h
  obtain ⟨hp, hq, hr, hs⟩ := allWk hk
  exact lawKeepsForm_of a b c p q r s 0 _
    (fun w => specKF_yes _ a b c p q r s _ _ _ rfl rfl rfl rfl ha hb hc hp hq hr hs (fun w => l05Code_all true 0 a b c p q r s h hm hk rfl w) w)
    (fun w => implKF_yes _ a b c p q r s _ _ _ rfl rfl rfl rfl ha hb hc hp hq hr hs (fun w => checkApplied_yes a b c p q r s h hm hk w) w) w
end Go.Proofs.Ytfpgdbdgglbleaa
