/- The walk of the law FnExactApplyMatrix. -/
import Derived.Test.YtfpgdbdgglbleaaLwApplyMatrix
import Derived.Test.YtfpgdbdgglbleaaApl
namespace Go.Proofs.Ytfpgdbdgglbleaa
open Go.ChangeShapes Go.WideShapes Go.ChangeAt Go.RowKit

set_option maxHeartbeats 1000000 in
theorem implAM_no (k : Int) (a b c p q r s : Int) (hk : (k != 0) = true) (hc : ∀ w : World, Calls Try.prog 43 #[(.agg #[.int .i64 a, .int .i64 b, .int .i64 c]), (.agg #[.int .i64 p, .int .i64 q, .int .i64 r, .int .i64 s])] w fun e w' => e = .returned (.int .i64 k) ∧ Below w.heap.size w w') (w : World) :
    Calls Try.prog 20 #[(.agg #[.int .i64 a, .int .i64 b, .int .i64 c]), (.agg #[.int .i64 p, .int .i64 q, .int .i64 r, .int .i64 s])] w fun e w' => e = .returned (.tuple #[(.agg #[.int .i64 0, .int .i64 0, .int .i64 0]), (.int .i64 k)]) ∧ Below w.heap.size w w' := by
  have HC := Lib.hid hc
  clear hc
  go_enter Try.func20, Try.ntmps20
  go_wp2_with fail
  refine (HC.out _).mono ?_
  rintro e w1 ⟨rfl, hb1⟩
  have Bw1_0 : Box w1 (w.heap.size + 1 + 1) [.int .i64 0, .int .i64 0, .int .i64 0] := by refine Box.below ?_ hb1; repeat (first | with_reducible assumption | with_reducible exact Box.new _ _ _ | (with_reducible refine Box.newAt ?_ _ _; (simp; done)) | with_reducible apply Box.alloc | with_reducible apply Box.drewN | with_reducible apply Box.drew)
  obtain ⟨_, _, _, _, _, _, _⟩ := Bw1_0.three
  go_wp2_with fail
  obtain ⟨_, e0, e1, e2, _, _, _⟩ := (Bw1_0.put3 (.int .i64 0) (.int .i64 0) (.int .i64 0)).three
  exact bodyPost_ret (v := .tuple #[(.agg #[.int .i64 0, .int .i64 0, .int .i64 0]), (.int .i64 k)]) (by simp [results, Try.results20, go_sem, e0, e1, e2]) rfl ⟨rfl, by repeat (first | with_reducible exact own_refl _ | with_reducible assumption | with_reducible apply own_alloc | with_reducible apply own_drewN | with_reducible apply own_drew | ((with_reducible refine own_setCell ?_ ?_ _); rotate_left; focus (first | (simp; done) | (simp; omega))) | (with_reducible (refine own_trans ?_ (by assumption))))⟩
set_option maxHeartbeats 1000000 in
theorem implAM_yes (a b c p q r s u v z u' v' z' k : Int) (hu : vq a b c p r = u) (hv : mq a b c p q r s = v) (hz : vq a b c q s = z) (ha : FE a) (hb : FE b) (hc : FE c) (hp : FE p) (hq : FE q) (hr : FE r) (hs : FE s)
    (hc0 : ∀ w : World, Calls Try.prog 43 #[(.agg #[.int .i64 a, .int .i64 b, .int .i64 c]), (.agg #[.int .i64 p, .int .i64 q, .int .i64 r, .int .i64 s])] w fun e w' => e = .returned (.int .i64 0) ∧ Below w.heap.size w w')
    (hw : ∀ w : World, Calls Try.prog 44 #[(.agg #[.int .i64 u, .int .i64 v, .int .i64 z])] w fun e w' => e = .returned (.tuple #[(.agg #[.int .i64 u', .int .i64 v', .int .i64 z']), (.int .i64 k)]) ∧ Below w.heap.size w w') (w : World) :
    Calls Try.prog 20 #[(.agg #[.int .i64 a, .int .i64 b, .int .i64 c]), (.agg #[.int .i64 p, .int .i64 q, .int .i64 r, .int .i64 s])] w fun e w' => e = .returned (.tuple #[(.agg #[.int .i64 u', .int .i64 v', .int .i64 z']), (.int .i64 k)]) ∧ Below w.heap.size w w' := by
  have HC := Lib.hid hc0
  have HW := Lib.hid hw
  have HF := Lib.hid (fun w => formMadeBy_is u v z a b c p q r s hu hv hz ha hb hc hp hq hr hs w)
  clear hu hv hz ha hb hc hp hq hr hs hc0 hw
  go_enter Try.func20, Try.ntmps20
  go_wp2_with fail
  refine (HC.out _).mono ?_
  rintro e w1 ⟨rfl, hb1⟩
  have Bw1_0 : Box w1 (w.heap.size) [.int .i64 a, .int .i64 b, .int .i64 c] := by refine Box.below ?_ hb1; repeat (first | with_reducible assumption | with_reducible exact Box.new _ _ _ | (with_reducible refine Box.newAt ?_ _ _; (simp; done)) | with_reducible apply Box.alloc | with_reducible apply Box.drewN | with_reducible apply Box.drew)
  obtain ⟨_, _, _, _, _, _, _⟩ := Bw1_0.three
  have Bw1_1 : Box w1 (w.heap.size + 1) [.int .i64 p, .int .i64 q, .int .i64 r, .int .i64 s] := by refine Box.below ?_ hb1; repeat (first | with_reducible assumption | with_reducible exact Box.new _ _ _ | (with_reducible refine Box.newAt ?_ _ _; (simp; done)) | with_reducible apply Box.alloc | with_reducible apply Box.drewN | with_reducible apply Box.drew)
  obtain ⟨_, _, _, _, _, _, _, _, _⟩ := Bw1_1.four
  have Bw1_2 : Box w1 (w.heap.size + 1 + 1) [.int .i64 0, .int .i64 0, .int .i64 0] := by refine Box.below ?_ hb1; repeat (first | with_reducible assumption | with_reducible exact Box.new _ _ _ | (with_reducible refine Box.newAt ?_ _ _; (simp; done)) | with_reducible apply Box.alloc | with_reducible apply Box.drewN | with_reducible apply Box.drew)
  obtain ⟨_, _, _, _, _, _, _⟩ := Bw1_2.three
  go_wp2_with fail
  refine (HF.out _).mono ?_
  rintro e w2 ⟨rfl, hb2⟩
  have Bw2_0 : Box w2 (w.heap.size + 1 + 1) [.int .i64 0, .int .i64 0, .int .i64 0] := by refine Box.below ?_ hb2; repeat (first | with_reducible assumption | with_reducible exact Box.new _ _ _ | (with_reducible refine Box.newAt ?_ _ _; (simp; done)) | with_reducible apply Box.alloc | with_reducible apply Box.drewN | with_reducible apply Box.drew)
  obtain ⟨_, _, _, _, _, _, _⟩ := Bw2_0.three
  go_wp2_with fail
  refine (HW.out _).mono ?_
  rintro e w3 ⟨rfl, hb3⟩
  have Bw3_0 : Box w3 (w.heap.size + 1 + 1) [.int .i64 0, .int .i64 0, .int .i64 0] := by refine Box.below ?_ hb3; repeat (first | with_reducible assumption | with_reducible exact Box.new _ _ _ | (with_reducible refine Box.newAt ?_ _ _; (simp; done)) | with_reducible apply Box.alloc | with_reducible apply Box.drewN | with_reducible apply Box.drew)
  obtain ⟨_, _, _, _, _, _, _⟩ := Bw3_0.three
  go_wp2_with fail
  obtain ⟨_, e0, e1, e2, _, _, _⟩ := (Bw3_0.put3 (.int .i64 u') (.int .i64 v') (.int .i64 z')).three
  exact bodyPost_ret (v := .tuple #[(.agg #[.int .i64 u', .int .i64 v', .int .i64 z']), (.int .i64 k)]) (by simp [results, Try.results20, go_sem, e0, e1, e2]) rfl ⟨rfl, by repeat (first | with_reducible exact own_refl _ | with_reducible assumption | with_reducible apply own_alloc | with_reducible apply own_drewN | with_reducible apply own_drew | ((with_reducible refine own_setCell ?_ ?_ _); rotate_left; focus (first | (simp; done) | (simp; omega))) | (with_reducible (refine own_trans ?_ (by assumption))))⟩
set_option maxHeartbeats 1000000 in
theorem specAM_no (k : Int) (a b c p q r s : Int) (hk : (k != 0) = true) (hc : ∀ w : World, Calls Try.prog 41 #[(.agg #[.int .i64 a, .int .i64 b, .int .i64 c]), (.agg #[.int .i64 p, .int .i64 q, .int .i64 r, .int .i64 s])] w fun e w' => e = .returned (.int .i64 k) ∧ Below w.heap.size w w') (w : World) :
    Calls Try.prog 18 #[(.agg #[.int .i64 a, .int .i64 b, .int .i64 c]), (.agg #[.int .i64 p, .int .i64 q, .int .i64 r, .int .i64 s])] w fun e w' => e = .returned (.tuple #[(.agg #[.int .i64 0, .int .i64 0, .int .i64 0]), (.int .i64 k)]) ∧ Below w.heap.size w w' := by
  have HC := Lib.hid hc
  clear hc
  go_enter Try.func18, Try.ntmps18
  go_wp2_with fail
  refine (HC.out _).mono ?_
  rintro e w1 ⟨rfl, hb1⟩
  have Bw1_0 : Box w1 (w.heap.size + 1 + 1) [.int .i64 0, .int .i64 0, .int .i64 0] := by refine Box.below ?_ hb1; repeat (first | with_reducible assumption | with_reducible exact Box.new _ _ _ | (with_reducible refine Box.newAt ?_ _ _; (simp; done)) | with_reducible apply Box.alloc | with_reducible apply Box.drewN | with_reducible apply Box.drew)
  obtain ⟨_, _, _, _, _, _, _⟩ := Bw1_0.three
  go_wp2_with fail
  obtain ⟨_, e0, e1, e2, _, _, _⟩ := (Bw1_0.put3 (.int .i64 0) (.int .i64 0) (.int .i64 0)).three
  exact bodyPost_ret (v := .tuple #[(.agg #[.int .i64 0, .int .i64 0, .int .i64 0]), (.int .i64 k)]) (by simp [results, Try.results18, go_sem, e0, e1, e2]) rfl ⟨rfl, by repeat (first | with_reducible exact own_refl _ | with_reducible assumption | with_reducible apply own_alloc | with_reducible apply own_drewN | with_reducible apply own_drew | ((with_reducible refine own_setCell ?_ ?_ _); rotate_left; focus (first | (simp; done) | (simp; omega))) | (with_reducible (refine own_trans ?_ (by assumption))))⟩
set_option maxHeartbeats 1000000 in
theorem specAM_yes (t : Bool) (a b c p q r s u v z u' v' z' k : Int) (hu : vq a b c p r = u) (hv : mq a b c p q r s = v) (hz : vq a b c q s = z) (ha : FE a) (hb : FE b) (hc : FE c) (hp : FE p) (hq : FE q) (hr : FE r) (hs : FE s)
    (hc0 : ∀ w : World, Calls Try.prog 41 #[(.agg #[.int .i64 a, .int .i64 b, .int .i64 c]), (.agg #[.int .i64 p, .int .i64 q, .int .i64 r, .int .i64 s])] w fun e w' => e = .returned (.int .i64 0) ∧ Below w.heap.size w w')
    (ht : isQ u v z = t) (he : (t = true ∧ u' = u ∧ v' = v ∧ z' = z ∧ k = 0) ∨ (t = false ∧ u' = 0 ∧ v' = 0 ∧ z' = 0 ∧ k = 3)) (w : World) :
    Calls Try.prog 18 #[(.agg #[.int .i64 a, .int .i64 b, .int .i64 c]), (.agg #[.int .i64 p, .int .i64 q, .int .i64 r, .int .i64 s])] w fun e w' => e = .returned (.tuple #[(.agg #[.int .i64 u', .int .i64 v', .int .i64 z']), (.int .i64 k)]) ∧ Below w.heap.size w w' := by
  have HC := Lib.hid hc0
  have HT := Lib.hid ht
  have HF := Lib.hid (fun w => l05Apply_is u v z a b c p q r s hu hv hz ha hb hc hp hq hr hs w)
  clear hu hv hz ha hb hc hp hq hr hs hc0 ht
  rcases he with ⟨rfl, rfl, rfl, rfl, rfl⟩ | ⟨rfl, rfl, rfl, rfl, rfl⟩
  all_goals
    go_enter Try.func18, Try.ntmps18
    go_wp2_with fail
    refine (HC.out _).mono ?_
    rintro e w1 ⟨rfl, hb1⟩
    have Bw1_0 : Box w1 (w.heap.size) [.int .i64 a, .int .i64 b, .int .i64 c] := by refine Box.below ?_ hb1; repeat (first | with_reducible assumption | with_reducible exact Box.new _ _ _ | (with_reducible refine Box.newAt ?_ _ _; (simp; done)) | with_reducible apply Box.alloc | with_reducible apply Box.drewN | with_reducible apply Box.drew)
    obtain ⟨_, _, _, _, _, _, _⟩ := Bw1_0.three
    have Bw1_1 : Box w1 (w.heap.size + 1) [.int .i64 p, .int .i64 q, .int .i64 r, .int .i64 s] := by refine Box.below ?_ hb1; repeat (first | with_reducible assumption | with_reducible exact Box.new _ _ _ | (with_reducible refine Box.newAt ?_ _ _; (simp; done)) | with_reducible apply Box.alloc | with_reducible apply Box.drewN | with_reducible apply Box.drew)
    obtain ⟨_, _, _, _, _, _, _, _, _⟩ := Bw1_1.four
    have Bw1_2 : Box w1 (w.heap.size + 1 + 1) [.int .i64 0, .int .i64 0, .int .i64 0] := by refine Box.below ?_ hb1; repeat (first | with_reducible assumption | with_reducible exact Box.new _ _ _ | (with_reducible refine Box.newAt ?_ _ _; (simp; done)) | with_reducible apply Box.alloc | with_reducible apply Box.drewN | with_reducible apply Box.drew)
    obtain ⟨_, _, _, _, _, _, _⟩ := Bw1_2.three
    go_wp2_with fail
    refine (HF.out _).mono ?_
    rintro e w2 ⟨rfl, hb2⟩
    have BZ : Box w2 (w.heap.size + 1 + 1) [.int .i64 0, .int .i64 0, .int .i64 0] := Bw1_2.below hb2
    go_wp2_with fail
    refine (l05Is_is _ _ _ _ HT.out _).mono ?_
    rintro e w3 ⟨rfl, hb3⟩
    have BZ := (Box.alloc BZ _).below hb3
    have BN := Box.below (Box.new _ _ _) hb3
    have n1 := BN.1
    obtain ⟨_, _, _, _, _, _, _⟩ := BZ.three
    obtain ⟨_, _, _, _, _, _, _⟩ := BN.three
    go_wp2_with fail
  · obtain ⟨_, e0, e1, e2, _, _, _⟩ := (BZ.put3 (.int .i64 u') (.int .i64 v') (.int .i64 z')).three
    exact bodyPost_ret (v := .tuple #[(.agg #[.int .i64 u', .int .i64 v', .int .i64 z']), (.int .i64 0)]) (by simp [results, Try.results18, go_sem, e0, e1, e2]) rfl ⟨rfl, by repeat (first | with_reducible exact own_refl _ | with_reducible assumption | with_reducible apply own_alloc | with_reducible apply own_drewN | with_reducible apply own_drew | ((with_reducible refine own_setCell ?_ ?_ _); rotate_left; focus (first | (simp; done) | (simp; omega))) | (with_reducible (refine own_trans ?_ (by assumption))))⟩
  · obtain ⟨_, e0, e1, e2, _, _, _⟩ := (BZ.put3 (.int .i64 0) (.int .i64 0) (.int .i64 0)).three
    exact bodyPost_ret (v := .tuple #[(.agg #[.int .i64 0, .int .i64 0, .int .i64 0]), (.int .i64 3)]) (by simp [results, Try.results18, go_sem, e0, e1, e2]) rfl ⟨rfl, by repeat (first | with_reducible exact own_refl _ | with_reducible assumption | with_reducible apply own_alloc | with_reducible apply own_drewN | with_reducible apply own_drew | ((with_reducible refine own_setCell ?_ ?_ _); rotate_left; focus (first | (simp; done) | (simp; omega))) | (with_reducible (refine own_trans ?_ (by assumption))))⟩
theorem lawApplyMatrix_walk (a b c p q r s : Int) (_ : I64 a) (_ : I64 b) (_ : I64 c) (_ : I64 p) (_ : I64 q) (_ : I64 r) (_ : I64 s) (w : World) :
    Calls Try.prog 6 #[(.agg #[.int .i64 a, .int .i64 b, .int .i64 c]), (.agg #[.int .i64 p, .int .i64 q, .int .i64 r, .int .i64 s])] w fun e w' => e = .returned (.bool true) ∧ Below w.heap.size w w' := by
  rcases h : isQ a b c with _ | _
  · exact lawApplyMatrix_of a b c p q r s 0 0 0 1 (fun w => specAM_no 1 a b c p q r s rfl (fun w => l05Code_q a b c p q r s h w) w) (fun w => implAM_no 1 a b c p q r s rfl (fun w => checkApplied_q a b c p q r s h w) w) w
  rcases hm : isM p q r s with _ | _
  · exact lawApplyMatrix_of a b c p q r s 0 0 0 1 (fun w => specAM_no 1 a b c p q r s rfl (fun w => l05Code_m a b c p q r s h hm w) w) (fun w => implAM_no 1 a b c p q r s rfl (fun w => checkApplied_m a b c p q r s h hm w) w) w
  rcases hk : allW [p, q, r, s] 1000 with _ | _
  · exact lawApplyMatrix_of a b c p q r s 0 0 0 2 (fun w => specAM_no 2 a b c p q r s rfl (fun w => l05Code_all false 2 a b c p q r s h hm hk rfl w) w) (fun w => implAM_no 2 a b c p q r s rfl (fun w => checkApplied_k a b c p q r s h hm hk w) w) w
  obtain ⟨ha, hb, hc, hn⟩ := isQ_fe h
  obtain ⟨hp, hq, hr, hs⟩ := allWk hk
  have hne := made_ne (isM_ent hm).2.2.2.2 hn
  have he := isQ_of hne
  rcases ht : allW [vq a b c p r, mq a b c p q r s, vq a b c q s] 1000000 with _ | _
  · exact lawApplyMatrix_of a b c p q r s 0 0 0 3
      (fun w => specAM_yes false a b c p q r s _ _ _ 0 0 0 3 rfl rfl rfl ha hb hc hp hq hr hs (fun w => l05Code_all true 0 a b c p q r s h hm hk rfl w) (he.trans ht) (.inr ⟨rfl, rfl, rfl, rfl, rfl⟩) w)
      (fun w => implAM_yes a b c p q r s _ _ _ 0 0 0 3 rfl rfl rfl ha hb hc hp hq hr hs (fun w => checkApplied_yes a b c p q r s h hm hk w) (fun w => withinMaxForm_no _ _ _ ht w) w) w
  · exact lawApplyMatrix_of a b c p q r s _ _ _ 0
      (fun w => specAM_yes true a b c p q r s _ _ _ _ _ _ 0 rfl rfl rfl ha hb hc hp hq hr hs (fun w => l05Code_all true 0 a b c p q r s h hm hk rfl w) (he.trans ht) (.inl ⟨rfl, rfl, rfl, rfl, rfl⟩) w)
      (fun w => implAM_yes a b c p q r s _ _ _ _ _ _ 0 rfl rfl rfl ha hb hc hp hq hr hs (fun w => checkApplied_yes a b c p q r s h hm hk w) (fun w => withinMaxForm_yes _ _ _ ht w) w) w
end Go.Proofs.Ytfpgdbdgglbleaa
