/- Neighbours of triples: both sides. -/
import Derived.Test.YtafmfdhogoheaaaDoorSo3
namespace Go.Proofs.YtafmfdhogoheaaaDoor
open Go.ChangeShapes Go.WideShapes Go.ChangeAt Go.RowKit

theorem lo3_rot (a b c : Int) : lo3 a b c = lo3 b c a := by unfold lo3; (repeat' split) <;> omega
theorem hi3_rot (a b c : Int) : hi3 a b c = hi3 b c a := by unfold hi3; (repeat' split) <;> omega
theorem mi3_rot (a b c : Int) : mi3 a b c = mi3 b c a := by unfold mi3; rw [lo3_rot a b c, hi3_rot a b c]; omega
theorem l09Sorted_is (a b c x y z : Int) (ha : Bd a) (hb : Bd b) (hc : Bd c) (hx : lo3 a b c = x) (hy : mi3 a b c = y) (hz : hi3 a b c = z) (w : World) :
    Calls Tryd.prog 65 #[(.int .i64 a), (.int .i64 b), (.int .i64 c)] w fun e w' => e = .returned (.agg #[.int .i64 x, .int .i64 y, .int .i64 z]) ∧ Below w.heap.size w w' := hx ▸ hy ▸ hz ▸ l09Sorted_any a b c ha hb hc w
theorem inOrder_is (a b c x y z : Int) (hx : lo3 a b c = x) (hy : mi3 a b c = y) (hz : hi3 a b c = z) (w : World) :
    Calls Tryd.prog 79 #[(.agg #[.int .i64 a, .int .i64 b, .int .i64 c])] w fun e w' => e = .returned (.agg #[.int .i64 x, .int .i64 y, .int .i64 z]) ∧ Below w.heap.size w w' := hx ▸ hy ▸ hz ▸ inOrder_any a b c w
theorem three_mul {a b : Int} (ha : Ent a) (hb : Ent b) : (-3000000000 ≤ 3 * a ∧ 3 * a ≤ 3000000000) ∧ (-3000000000000000000 ≤ 3 * a * b ∧ 3 * a * b ≤ 3000000000000000000) := by
  have h1 := ent_mul ha hb
  have h2 : 3 * a * b = 3 * (a * b) := by grind
  unfold Ent at ha hb
  omega

set_option maxHeartbeats 2000000 in
theorem replaced_0 (a b c v p q r : Int) (ha : Ent a) (hb : Ent b) (hc : Ent c) (hv : 3 * b * c - a = v) (hp : lo3 v b c = p) (hq : mi3 v b c = q) (hr : hi3 v b c = r) (w : World) :
    Calls Tryd.prog 56 #[(.agg #[.int .i64 a, .int .i64 b, .int .i64 c]), (.int .i64 0)] w fun e w' => e = .returned (.agg #[.int .i64 p, .int .i64 q, .int .i64 r]) ∧ Below w.heap.size w w' := by
  obtain ⟨⟨t1, t2⟩, ⟨t3, t4⟩⟩ := three_mul hb hc
  have HO := Lib.hid (fun w => inOrder_is v b c p q r hp hq hr w)
  unfold Ent at ha hb hc
  have g1 : IntKind.i64.wrap (3 * b) = 3 * b := IntWalk.i64_in _ (by omega)
  have g2 : IntKind.i64.wrap (3 * b * c) = 3 * b * c := IntWalk.i64_in _ (by omega)
  have g3 : IntKind.i64.wrap (3 * b * c - a) = 3 * b * c - a := IntWalk.i64_in _ (by omega)
  have HV := Lib.hid hv
  clear hv hp hq hr ha hb hc t1 t2 t3 t4
  have B0 : Box ((w.alloc (.cells #[.int .i64 a, .int .i64 b, .int .i64 c] 36)).alloc (.cells #[.int .i64 0, .int .i64 0, .int .i64 0] 36)) w.heap.size [.int .i64 a, .int .i64 b, .int .i64 c] := Box.alloc (Box.new _ _ _) _
  have B1 : Box ((w.alloc (.cells #[.int .i64 a, .int .i64 b, .int .i64 c] 36)).alloc (.cells #[.int .i64 0, .int .i64 0, .int .i64 0] 36)) (w.heap.size + 1) [.int .i64 0, .int .i64 0, .int .i64 0] := Box.newAt (by simp) _ _
  go_enter Tryd.func56, Tryd.ntmps56
  go_upto_region 1 with fail
  go_cut [] (fun wx => Below w.heap.size w wx ∧ Box wx w.heap.size [.int .i64 v, .int .i64 b, .int .i64 c] ∧ Box wx (w.heap.size + 1) [.int .i64 0, .int .i64 0, .int .i64 0])
  case first =>
    go_region
    all_goals
      go_wp2_with fail
      go_meet
      rw [HV.out]
      exact ⟨by repeat (first | with_reducible exact own_refl _ | with_reducible assumption | with_reducible apply own_alloc | with_reducible apply own_drewN | with_reducible apply own_drew | ((with_reducible refine own_setCell ?_ ?_ _); rotate_left; focus (first | (simp; done) | (simp; omega))) | (with_reducible (refine own_trans ?_ (by assumption)))), Box.drew (Box.alloc (Box.new _ _ _) _), Box.drew (Box.newAt (by simp) _ _)⟩
  case rest =>
    obtain ⟨T, B2, B3⟩ := hcut
    clear B0 B1
    obtain ⟨_, _, _, _, _, _, _⟩ := B2.three
    obtain ⟨_, _, _, _, _, _, _⟩ := B3.three
    go_wp2_with fail
    refine (HO.out _).mono ?_
    rintro e w1 ⟨rfl, hb1⟩
    have B4 := B3.below hb1
    have T := T.trans (hb1.mono (by have := T.size; have := B2.1; omega))
    obtain ⟨_, _, _, _, _, _, _⟩ := B4.three
    go_wp2
    have B5 := B4.put3 (.int .i64 p) (.int .i64 q) (.int .i64 r)
    obtain ⟨_, d0, d1, d2, _, _, _⟩ := B5.three
    exact bodyPost_ret (v := (.agg #[.int .i64 p, .int .i64 q, .int .i64 r])) (by simp [results, Tryd.results56, go_sem, d0, d1, d2]) rfl ⟨rfl, by repeat (first | with_reducible exact own_refl _ | with_reducible assumption | with_reducible apply own_alloc | with_reducible apply own_drewN | with_reducible apply own_drew | ((with_reducible refine own_setCell ?_ ?_ _); rotate_left; focus (first | (simp; done) | (simp; omega))) | (with_reducible (refine own_trans ?_ (by assumption))))⟩
set_option maxHeartbeats 2000000 in
theorem l09Nb_0 (a b c v p q r : Int) (ha : Ent a) (hb : Ent b) (hc : Ent c) (hv : 3 * b * c - a = v) (hp : lo3 b c v = p) (hq : mi3 b c v = q) (hr : hi3 b c v = r) (w : World) :
    Calls Tryd.prog 64 #[(.agg #[.int .i64 a, .int .i64 b, .int .i64 c]), (.int .i64 0)] w fun e w' => e = .returned (.agg #[.int .i64 p, .int .i64 q, .int .i64 r]) ∧ Below w.heap.size w w' := by
  obtain ⟨⟨t1, t2⟩, ⟨t3, t4⟩⟩ := three_mul hb hc
  unfold Ent at ha hb hc
  have HO := Lib.hid (fun w => l09Sorted_is b c v p q r (by unfold Bd; omega) (by unfold Bd; omega) (by unfold Bd; omega) hp hq hr w)
  have g1 : IntKind.i64.wrap (3 * b) = 3 * b := IntWalk.i64_in _ (by omega)
  have g2 : IntKind.i64.wrap (3 * b * c) = 3 * b * c := IntWalk.i64_in _ (by omega)
  have g3 : IntKind.i64.wrap (3 * b * c - a) = 3 * b * c - a := IntWalk.i64_in _ (by omega)
  have HV := Lib.hid hv
  clear hv hp hq hr ha hb hc t1 t2 t3 t4
  have B0 : Box ((w.alloc (.cells #[.int .i64 a, .int .i64 b, .int .i64 c] 36)).alloc (.cells #[.int .i64 0, .int .i64 0, .int .i64 0] 36)) w.heap.size [.int .i64 a, .int .i64 b, .int .i64 c] := Box.alloc (Box.new _ _ _) _
  have B1 : Box ((w.alloc (.cells #[.int .i64 a, .int .i64 b, .int .i64 c] 36)).alloc (.cells #[.int .i64 0, .int .i64 0, .int .i64 0] 36)) (w.heap.size + 1) [.int .i64 0, .int .i64 0, .int .i64 0] := Box.newAt (by simp) _ _
  go_enter Tryd.func64, Tryd.ntmps64
  go_wp2_with fail
  go_quiet (fail)
  go_wp2_with fail
  have HV2 := HV.out
  rw [HV2]
  refine (HO.out _).mono ?_
  rintro e w1 ⟨rfl, hb1⟩
  have B2 := (B1.drewN _).below hb1
  obtain ⟨_, _, _, _, _, _, _⟩ := B2.three
  go_wp2
  have B5 := B2.put3 (.int .i64 p) (.int .i64 q) (.int .i64 r)
  obtain ⟨_, d0, d1, d2, _, _, _⟩ := B5.three
  exact bodyPost_ret (v := (.agg #[.int .i64 p, .int .i64 q, .int .i64 r])) (by simp [results, Tryd.results64, go_sem, d0, d1, d2]) rfl ⟨rfl, by repeat (first | with_reducible exact own_refl _ | with_reducible assumption | with_reducible apply own_alloc | with_reducible apply own_drewN | with_reducible apply own_drew | ((with_reducible refine own_setCell ?_ ?_ _); rotate_left; focus (first | (simp; done) | (simp; omega))) | (with_reducible (refine own_trans ?_ (by assumption))))⟩

set_option maxHeartbeats 2000000 in
theorem replaced_1 (a b c v p q r : Int) (ha : Ent a) (hb : Ent b) (hc : Ent c) (hv : 3 * c * a - b = v) (hp : lo3 a v c = p) (hq : mi3 a v c = q) (hr : hi3 a v c = r) (w : World) :
    Calls Tryd.prog 56 #[(.agg #[.int .i64 a, .int .i64 b, .int .i64 c]), (.int .i64 1)] w fun e w' => e = .returned (.agg #[.int .i64 p, .int .i64 q, .int .i64 r]) ∧ Below w.heap.size w w' := by
  obtain ⟨⟨t1, t2⟩, ⟨t3, t4⟩⟩ := three_mul hc ha
  have HO := Lib.hid (fun w => inOrder_is a v c p q r hp hq hr w)
  unfold Ent at ha hb hc
  have g1 : IntKind.i64.wrap (3 * c) = 3 * c := IntWalk.i64_in _ (by omega)
  have g2 : IntKind.i64.wrap (3 * c * a) = 3 * c * a := IntWalk.i64_in _ (by omega)
  have g3 : IntKind.i64.wrap (3 * c * a - b) = 3 * c * a - b := IntWalk.i64_in _ (by omega)
  have HV := Lib.hid hv
  clear hv hp hq hr ha hb hc t1 t2 t3 t4
  have B0 : Box ((w.alloc (.cells #[.int .i64 a, .int .i64 b, .int .i64 c] 36)).alloc (.cells #[.int .i64 0, .int .i64 0, .int .i64 0] 36)) w.heap.size [.int .i64 a, .int .i64 b, .int .i64 c] := Box.alloc (Box.new _ _ _) _
  have B1 : Box ((w.alloc (.cells #[.int .i64 a, .int .i64 b, .int .i64 c] 36)).alloc (.cells #[.int .i64 0, .int .i64 0, .int .i64 0] 36)) (w.heap.size + 1) [.int .i64 0, .int .i64 0, .int .i64 0] := Box.newAt (by simp) _ _
  go_enter Tryd.func56, Tryd.ntmps56
  go_upto_region 1 with fail
  go_cut [] (fun wx => Below w.heap.size w wx ∧ Box wx w.heap.size [.int .i64 a, .int .i64 v, .int .i64 c] ∧ Box wx (w.heap.size + 1) [.int .i64 0, .int .i64 0, .int .i64 0])
  case first =>
    go_region
    all_goals
      go_wp2_with fail
      go_meet
      rw [HV.out]
      exact ⟨by repeat (first | with_reducible exact own_refl _ | with_reducible assumption | with_reducible apply own_alloc | with_reducible apply own_drewN | with_reducible apply own_drew | ((with_reducible refine own_setCell ?_ ?_ _); rotate_left; focus (first | (simp; done) | (simp; omega))) | (with_reducible (refine own_trans ?_ (by assumption)))), Box.drew (Box.alloc (Box.new _ _ _) _), Box.drew (Box.newAt (by simp) _ _)⟩
  case rest =>
    obtain ⟨T, B2, B3⟩ := hcut
    clear B0 B1
    obtain ⟨_, _, _, _, _, _, _⟩ := B2.three
    obtain ⟨_, _, _, _, _, _, _⟩ := B3.three
    go_wp2_with fail
    refine (HO.out _).mono ?_
    rintro e w1 ⟨rfl, hb1⟩
    have B4 := B3.below hb1
    have T := T.trans (hb1.mono (by have := T.size; have := B2.1; omega))
    obtain ⟨_, _, _, _, _, _, _⟩ := B4.three
    go_wp2
    have B5 := B4.put3 (.int .i64 p) (.int .i64 q) (.int .i64 r)
    obtain ⟨_, d0, d1, d2, _, _, _⟩ := B5.three
    exact bodyPost_ret (v := (.agg #[.int .i64 p, .int .i64 q, .int .i64 r])) (by simp [results, Tryd.results56, go_sem, d0, d1, d2]) rfl ⟨rfl, by repeat (first | with_reducible exact own_refl _ | with_reducible assumption | with_reducible apply own_alloc | with_reducible apply own_drewN | with_reducible apply own_drew | ((with_reducible refine own_setCell ?_ ?_ _); rotate_left; focus (first | (simp; done) | (simp; omega))) | (with_reducible (refine own_trans ?_ (by assumption))))⟩
set_option maxHeartbeats 2000000 in
theorem l09Nb_1 (a b c v p q r : Int) (ha : Ent a) (hb : Ent b) (hc : Ent c) (hv : 3 * c * a - b = v) (hp : lo3 c a v = p) (hq : mi3 c a v = q) (hr : hi3 c a v = r) (w : World) :
    Calls Tryd.prog 64 #[(.agg #[.int .i64 a, .int .i64 b, .int .i64 c]), (.int .i64 1)] w fun e w' => e = .returned (.agg #[.int .i64 p, .int .i64 q, .int .i64 r]) ∧ Below w.heap.size w w' := by
  obtain ⟨⟨t1, t2⟩, ⟨t3, t4⟩⟩ := three_mul hc ha
  unfold Ent at ha hb hc
  have HO := Lib.hid (fun w => l09Sorted_is c a v p q r (by unfold Bd; omega) (by unfold Bd; omega) (by unfold Bd; omega) hp hq hr w)
  have g1 : IntKind.i64.wrap (3 * c) = 3 * c := IntWalk.i64_in _ (by omega)
  have g2 : IntKind.i64.wrap (3 * c * a) = 3 * c * a := IntWalk.i64_in _ (by omega)
  have g3 : IntKind.i64.wrap (3 * c * a - b) = 3 * c * a - b := IntWalk.i64_in _ (by omega)
  have HV := Lib.hid hv
  clear hv hp hq hr ha hb hc t1 t2 t3 t4
  have B0 : Box ((w.alloc (.cells #[.int .i64 a, .int .i64 b, .int .i64 c] 36)).alloc (.cells #[.int .i64 0, .int .i64 0, .int .i64 0] 36)) w.heap.size [.int .i64 a, .int .i64 b, .int .i64 c] := Box.alloc (Box.new _ _ _) _
  have B1 : Box ((w.alloc (.cells #[.int .i64 a, .int .i64 b, .int .i64 c] 36)).alloc (.cells #[.int .i64 0, .int .i64 0, .int .i64 0] 36)) (w.heap.size + 1) [.int .i64 0, .int .i64 0, .int .i64 0] := Box.newAt (by simp) _ _
  go_enter Tryd.func64, Tryd.ntmps64
  go_wp2_with fail
  go_quiet (fail)
  go_wp2_with fail
  have HV2 := HV.out
  rw [HV2]
  refine (HO.out _).mono ?_
  rintro e w1 ⟨rfl, hb1⟩
  have B2 := (B1.drewN _).below hb1
  obtain ⟨_, _, _, _, _, _, _⟩ := B2.three
  go_wp2
  have B5 := B2.put3 (.int .i64 p) (.int .i64 q) (.int .i64 r)
  obtain ⟨_, d0, d1, d2, _, _, _⟩ := B5.three
  exact bodyPost_ret (v := (.agg #[.int .i64 p, .int .i64 q, .int .i64 r])) (by simp [results, Tryd.results64, go_sem, d0, d1, d2]) rfl ⟨rfl, by repeat (first | with_reducible exact own_refl _ | with_reducible assumption | with_reducible apply own_alloc | with_reducible apply own_drewN | with_reducible apply own_drew | ((with_reducible refine own_setCell ?_ ?_ _); rotate_left; focus (first | (simp; done) | (simp; omega))) | (with_reducible (refine own_trans ?_ (by assumption))))⟩

set_option maxHeartbeats 2000000 in
theorem replaced_2 (a b c v p q r : Int) (ha : Ent a) (hb : Ent b) (hc : Ent c) (hv : 3 * a * b - c = v) (hp : lo3 a b v = p) (hq : mi3 a b v = q) (hr : hi3 a b v = r) (w : World) :
    Calls Tryd.prog 56 #[(.agg #[.int .i64 a, .int .i64 b, .int .i64 c]), (.int .i64 2)] w fun e w' => e = .returned (.agg #[.int .i64 p, .int .i64 q, .int .i64 r]) ∧ Below w.heap.size w w' := by
  obtain ⟨⟨t1, t2⟩, ⟨t3, t4⟩⟩ := three_mul ha hb
  have HO := Lib.hid (fun w => inOrder_is a b v p q r hp hq hr w)
  unfold Ent at ha hb hc
  have g1 : IntKind.i64.wrap (3 * a) = 3 * a := IntWalk.i64_in _ (by omega)
  have g2 : IntKind.i64.wrap (3 * a * b) = 3 * a * b := IntWalk.i64_in _ (by omega)
  have g3 : IntKind.i64.wrap (3 * a * b - c) = 3 * a * b - c := IntWalk.i64_in _ (by omega)
  have HV := Lib.hid hv
  clear hv hp hq hr ha hb hc t1 t2 t3 t4
  have B0 : Box ((w.alloc (.cells #[.int .i64 a, .int .i64 b, .int .i64 c] 36)).alloc (.cells #[.int .i64 0, .int .i64 0, .int .i64 0] 36)) w.heap.size [.int .i64 a, .int .i64 b, .int .i64 c] := Box.alloc (Box.new _ _ _) _
  have B1 : Box ((w.alloc (.cells #[.int .i64 a, .int .i64 b, .int .i64 c] 36)).alloc (.cells #[.int .i64 0, .int .i64 0, .int .i64 0] 36)) (w.heap.size + 1) [.int .i64 0, .int .i64 0, .int .i64 0] := Box.newAt (by simp) _ _
  go_enter Tryd.func56, Tryd.ntmps56
  go_upto_region 1 with fail
  go_cut [] (fun wx => Below w.heap.size w wx ∧ Box wx w.heap.size [.int .i64 a, .int .i64 b, .int .i64 v] ∧ Box wx (w.heap.size + 1) [.int .i64 0, .int .i64 0, .int .i64 0])
  case first =>
    go_region
    all_goals
      go_wp2_with fail
      go_meet
      rw [HV.out]
      exact ⟨by repeat (first | with_reducible exact own_refl _ | with_reducible assumption | with_reducible apply own_alloc | with_reducible apply own_drewN | with_reducible apply own_drew | ((with_reducible refine own_setCell ?_ ?_ _); rotate_left; focus (first | (simp; done) | (simp; omega))) | (with_reducible (refine own_trans ?_ (by assumption)))), Box.drew (Box.alloc (Box.new _ _ _) _), Box.drew (Box.newAt (by simp) _ _)⟩
  case rest =>
    obtain ⟨T, B2, B3⟩ := hcut
    clear B0 B1
    obtain ⟨_, _, _, _, _, _, _⟩ := B2.three
    obtain ⟨_, _, _, _, _, _, _⟩ := B3.three
    go_wp2_with fail
    refine (HO.out _).mono ?_
    rintro e w1 ⟨rfl, hb1⟩
    have B4 := B3.below hb1
    have T := T.trans (hb1.mono (by have := T.size; have := B2.1; omega))
    obtain ⟨_, _, _, _, _, _, _⟩ := B4.three
    go_wp2
    have B5 := B4.put3 (.int .i64 p) (.int .i64 q) (.int .i64 r)
    obtain ⟨_, d0, d1, d2, _, _, _⟩ := B5.three
    exact bodyPost_ret (v := (.agg #[.int .i64 p, .int .i64 q, .int .i64 r])) (by simp [results, Tryd.results56, go_sem, d0, d1, d2]) rfl ⟨rfl, by repeat (first | with_reducible exact own_refl _ | with_reducible assumption | with_reducible apply own_alloc | with_reducible apply own_drewN | with_reducible apply own_drew | ((with_reducible refine own_setCell ?_ ?_ _); rotate_left; focus (first | (simp; done) | (simp; omega))) | (with_reducible (refine own_trans ?_ (by assumption))))⟩
set_option maxHeartbeats 2000000 in
theorem l09Nb_2 (a b c v p q r : Int) (ha : Ent a) (hb : Ent b) (hc : Ent c) (hv : 3 * a * b - c = v) (hp : lo3 a b v = p) (hq : mi3 a b v = q) (hr : hi3 a b v = r) (w : World) :
    Calls Tryd.prog 64 #[(.agg #[.int .i64 a, .int .i64 b, .int .i64 c]), (.int .i64 2)] w fun e w' => e = .returned (.agg #[.int .i64 p, .int .i64 q, .int .i64 r]) ∧ Below w.heap.size w w' := by
  obtain ⟨⟨t1, t2⟩, ⟨t3, t4⟩⟩ := three_mul ha hb
  unfold Ent at ha hb hc
  have HO := Lib.hid (fun w => l09Sorted_is a b v p q r (by unfold Bd; omega) (by unfold Bd; omega) (by unfold Bd; omega) hp hq hr w)
  have g1 : IntKind.i64.wrap (3 * a) = 3 * a := IntWalk.i64_in _ (by omega)
  have g2 : IntKind.i64.wrap (3 * a * b) = 3 * a * b := IntWalk.i64_in _ (by omega)
  have g3 : IntKind.i64.wrap (3 * a * b - c) = 3 * a * b - c := IntWalk.i64_in _ (by omega)
  have HV := Lib.hid hv
  clear hv hp hq hr ha hb hc t1 t2 t3 t4
  have B0 : Box ((w.alloc (.cells #[.int .i64 a, .int .i64 b, .int .i64 c] 36)).alloc (.cells #[.int .i64 0, .int .i64 0, .int .i64 0] 36)) w.heap.size [.int .i64 a, .int .i64 b, .int .i64 c] := Box.alloc (Box.new _ _ _) _
  have B1 : Box ((w.alloc (.cells #[.int .i64 a, .int .i64 b, .int .i64 c] 36)).alloc (.cells #[.int .i64 0, .int .i64 0, .int .i64 0] 36)) (w.heap.size + 1) [.int .i64 0, .int .i64 0, .int .i64 0] := Box.newAt (by simp) _ _
  go_enter Tryd.func64, Tryd.ntmps64
  go_wp2_with fail
  go_quiet (fail)
  go_wp2_with fail
  have HV2 := HV.out
  rw [HV2]
  refine (HO.out _).mono ?_
  rintro e w1 ⟨rfl, hb1⟩
  have B2 := (B1.drewN _).below hb1
  obtain ⟨_, _, _, _, _, _, _⟩ := B2.three
  go_wp2
  have B5 := B2.put3 (.int .i64 p) (.int .i64 q) (.int .i64 r)
  obtain ⟨_, d0, d1, d2, _, _, _⟩ := B5.three
  exact bodyPost_ret (v := (.agg #[.int .i64 p, .int .i64 q, .int .i64 r])) (by simp [results, Tryd.results64, go_sem, d0, d1, d2]) rfl ⟨rfl, by repeat (first | with_reducible exact own_refl _ | with_reducible assumption | with_reducible apply own_alloc | with_reducible apply own_drewN | with_reducible apply own_drew | ((with_reducible refine own_setCell ?_ ?_ _); rotate_left; focus (first | (simp; done) | (simp; omega))) | (with_reducible (refine own_trans ?_ (by assumption))))⟩
end Go.Proofs.YtafmfdhogoheaaaDoor
