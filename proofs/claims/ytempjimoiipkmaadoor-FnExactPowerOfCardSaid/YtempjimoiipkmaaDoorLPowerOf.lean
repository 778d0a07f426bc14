/- The walk of the law FnExactPowerOf. -/
import Derived.Test.YtempjimoiipkmaaDoorLoPowerOf
import Derived.Test.YtempjimoiipkmaaDoorPwI
import Derived.Test.YtempjimoiipkmaaDoorPwS
import Derived.Test.YtempjimoiipkmaaDoorInv
namespace Go.Proofs.YtempjimoiipkmaaDoor
open Go.ChangeShapes Go.WideShapes Go.ChangeAt Go.RowKit

theorem inv_is {a b c d : Int} (h : isM a b c d = true) : (⟨d, -b, -c, a⟩ : Mat).is = true := by
  obtain ⟨ha, hb, hc, hd, e⟩ := isM_ent h
  have hb' : Ent (-b) := by unfold Ent at *; omega
  have hc' : Ent (-c) := by unfold Ent at *; omega
  have e' : d * a - -b * -c = 1 := by grind
  exact decide_eq_true ⟨hd, hb', hc', ha, e'⟩
theorem isWithin_is' (r : Bool) (x : Int) (hr : inW x 1000000 = r) (w : World) :
    Calls Tryd.prog 57 #[(.int .i64 x), (.int .i64 1000000)] w fun e w' => e = .returned (.bool r) ∧ w = w' := isWithin_is r x 1000000 (by omega) (by omega) hr w

set_option maxHeartbeats 1000000 in
theorem implPow_no (a b c d n : Int) (h : isM a b c d = false) (w : World) :
    Calls Tryd.prog 27 #[(.agg #[.int .i64 a, .int .i64 b, .int .i64 c, .int .i64 d]), (.int .i64 n)] w fun e w' => e = .returned (.tuple #[(.agg #[.int .i64 0, .int .i64 0, .int .i64 0, .int .i64 0]), (.int .i64 1)]) ∧ Below w.heap.size w w' := by
  have H := Lib.hid h
  clear h
  go_enter Tryd.func27, Tryd.ntmps27
  go_wp2_with fail
  refine (implIs_is false _ _ _ _ _ H.out).mono ?_
  rintro e w1 ⟨rfl, hb1⟩
  have R1 : Box w1 (w.heap.size + 1) [.int .i64 0, .int .i64 0, .int .i64 0, .int .i64 0] := Box.below (Box.newAt (by simp) _ _) hb1
  obtain ⟨_, d0, d1, d2, d3, _, _, _, _⟩ := R1.four
  go_wp2
  exact bodyPost_ret (v := .tuple #[(.agg #[.int .i64 0, .int .i64 0, .int .i64 0, .int .i64 0]), (.int .i64 1)]) (by simp [results, Tryd.results27, go_sem, d0, d1, d2, d3]) rfl ⟨rfl, by repeat (first | with_reducible exact own_refl _ | with_reducible assumption | with_reducible apply own_alloc | with_reducible apply own_drewN | with_reducible apply own_drew | ((with_reducible refine own_setCell ?_ ?_ _); rotate_left; focus (first | (simp; done) | (simp; omega))) | (with_reducible (refine own_trans ?_ (by assumption))))⟩
set_option maxHeartbeats 1000000 in
theorem implPow_range (a b c d n : Int) (h : isM a b c d = true) (hn : inW n 1000000 = false) (w : World) :
    Calls Tryd.prog 27 #[(.agg #[.int .i64 a, .int .i64 b, .int .i64 c, .int .i64 d]), (.int .i64 n)] w fun e w' => e = .returned (.tuple #[(.agg #[.int .i64 0, .int .i64 0, .int .i64 0, .int .i64 0]), (.int .i64 2)]) ∧ Below w.heap.size w w' := by
  have H := Lib.hid h
  have HN := Lib.hid hn
  clear h hn
  go_enter Tryd.func27, Tryd.ntmps27
  go_wp2_with fail
  refine (implIs_is true _ _ _ _ _ H.out).mono ?_
  rintro e w1 ⟨rfl, hb1⟩
  have R1 : Box w1 (w.heap.size + 1) [.int .i64 0, .int .i64 0, .int .i64 0, .int .i64 0] := Box.below (Box.newAt (by simp) _ _) hb1
  obtain ⟨_, d0, d1, d2, d3, _, _, _, _⟩ := R1.four
  go_wp2_with fail
  refine (isWithin_is' false _ HN.out _).mono ?_
  rintro e w2 ⟨rfl, rfl⟩
  go_wp2
  exact bodyPost_ret (v := .tuple #[(.agg #[.int .i64 0, .int .i64 0, .int .i64 0, .int .i64 0]), (.int .i64 2)]) (by simp [results, Tryd.results27, go_sem, d0, d1, d2, d3]) rfl ⟨rfl, by repeat (first | with_reducible exact own_refl _ | with_reducible assumption | with_reducible apply own_alloc | with_reducible apply own_drewN | with_reducible apply own_drew | ((with_reducible refine own_setCell ?_ ?_ _); rotate_left; focus (first | (simp; done) | (simp; omega))) | (with_reducible (refine own_trans ?_ (by assumption))))⟩
set_option maxHeartbeats 1000000 in
theorem implPow_pos (a b c d : Int) (k : Nat) (r : Mat) (x : Int) (h : isM a b c d = true) (hk : k ≤ 1000000) (hp : PB Mat.one ⟨a, b, c, d⟩ k r x) (w : World) (hid : Idn w) :
    Calls Tryd.prog 27 #[(.agg #[.int .i64 a, .int .i64 b, .int .i64 c, .int .i64 d]), (.int .i64 k)] w fun e w' => e = .returned (.tuple #[(.agg #[.int .i64 r.a, .int .i64 r.b, .int .i64 r.c, .int .i64 r.d]), (.int .i64 x)]) ∧ Below w.heap.size w w' := by
  have H := Lib.hid h
  have HP := Lib.hid hp
  have HN := Lib.hid (show inW (k : Int) 1000000 = true by simp [inW]; omega)
  clear h hp
  go_enter Tryd.func27, Tryd.ntmps27
  go_wp2_with fail
  refine (implIs_is true _ _ _ _ _ H.out).mono ?_
  rintro e w1 ⟨rfl, hb1⟩
  have M1 : Box w1 w.heap.size [.int .i64 a, .int .i64 b, .int .i64 c, .int .i64 d] := Box.below (Box.alloc (Box.new _ _ _) _) hb1
  have R1 : Box w1 (w.heap.size + 1) [.int .i64 0, .int .i64 0, .int .i64 0, .int .i64 0] := Box.below (Box.newAt (by simp) _ _) hb1
  have X1 : Idn w1 := Rd.below ((Rd.alloc hid _).alloc _) hb1
  obtain ⟨_, _, _, _, _, _, _, _, _⟩ := M1.four
  obtain ⟨_, d0, d1, d2, d3, _, _, _, _⟩ := R1.four
  go_wp2_with fail
  refine (isWithin_is' true _ HN.out _).mono ?_
  rintro e w2 ⟨rfl, rfl⟩
  go_wp2_with fail
  refine (implPbs_any ⟨a, b, c, d⟩ k hk H.out r x HP.out _ X1).mono ?_
  rintro e w3 ⟨rfl, hb3⟩
  obtain ⟨_, d0, d1, d2, d3, _, _, _, _⟩ := (R1.below hb3).four
  go_wp2
  exact bodyPost_ret (v := .tuple #[(.agg #[.int .i64 r.a, .int .i64 r.b, .int .i64 r.c, .int .i64 r.d]), (.int .i64 x)]) (by simp [results, Tryd.results27, go_sem, d0, d1, d2, d3]) rfl ⟨rfl, by repeat (first | with_reducible exact own_refl _ | with_reducible assumption | with_reducible apply own_alloc | with_reducible apply own_drewN | with_reducible apply own_drew | ((with_reducible refine own_setCell ?_ ?_ _); rotate_left; focus (first | (simp; done) | (simp; omega))) | (with_reducible (refine own_trans ?_ (by assumption))))⟩
set_option maxHeartbeats 2000000 in
theorem implPow_neg (a b c d : Int) (k : Nat) (r : Mat) (x : Int) (h : isM a b c d = true) (hk0 : 0 < k) (hk : k ≤ 1000000) (hp : PB Mat.one ⟨d, -b, -c, a⟩ k r x) (w : World) (hid : Idn w) :
    Calls Tryd.prog 27 #[(.agg #[.int .i64 a, .int .i64 b, .int .i64 c, .int .i64 d]), (.int .i64 (-(k : Int)))] w fun e w' => e = .returned (.tuple #[(.agg #[.int .i64 r.a, .int .i64 r.b, .int .i64 r.c, .int .i64 r.d]), (.int .i64 x)]) ∧ Below w.heap.size w w' := by
  obtain ⟨ea, eb, ec, ed, _⟩ := isM_ent h
  have H := Lib.hid h
  have HI := Lib.hid (inv_is h)
  have HP := Lib.hid hp
  have HN := Lib.hid (show inW (-(k : Int)) 1000000 = true by simp [inW]; omega)
  have hneg : -(k : Int) < 0 := by omega
  clear h hp
  go_enter Tryd.func27, Tryd.ntmps27
  go_wp2_with fail
  refine (implIs_is true _ _ _ _ _ H.out).mono ?_
  rintro e w1 ⟨rfl, hb1⟩
  have M1 : Box w1 w.heap.size [.int .i64 a, .int .i64 b, .int .i64 c, .int .i64 d] := Box.below (Box.alloc (Box.new _ _ _) _) hb1
  have R1 : Box w1 (w.heap.size + 1) [.int .i64 0, .int .i64 0, .int .i64 0, .int .i64 0] := Box.below (Box.newAt (by simp) _ _) hb1
  have T1 : Below w.heap.size w w1 := by repeat (first | with_reducible exact own_refl _ | with_reducible assumption | with_reducible apply own_alloc | with_reducible apply own_drewN | with_reducible apply own_drew | ((with_reducible refine own_setCell ?_ ?_ _); rotate_left; focus (first | (simp; done) | (simp; omega))) | (with_reducible (refine own_trans ?_ (by assumption))))
  clear hb1
  obtain ⟨_, _, _, _, _, _, _, _, _⟩ := M1.four
  go_wp2_with fail
  refine (isWithin_is' true _ HN.out _).mono ?_
  rintro e w2 ⟨rfl, rfl⟩
  go_wp2_with fail
  refine (implInverse_ent _ _ _ _ eb ec _).mono ?_
  rintro e w3 ⟨rfl, hb3⟩
  have M3 := M1.below hb3
  have R3 := R1.below hb3
  have T3 := own_trans T1 hb3
  obtain ⟨_, _, _, _, _, _, _, _, _⟩ := M3.four
  go_upto_region 7 with fail
  have M4 : Box ((((w3.setCell ⟨w.heap.size, 0, none⟩ (.int .i64 d)).setCell ⟨w.heap.size, 1, none⟩ (.int .i64 (-b))).setCell ⟨w.heap.size, 2, none⟩ (.int .i64 (-c))).setCell ⟨w.heap.size, 3, none⟩ (.int .i64 a)) w.heap.size [.int .i64 d, .int .i64 (-b), .int .i64 (-c), .int .i64 a] := M3.put4 _ _ _ _
  have R4 : Box ((((w3.setCell ⟨w.heap.size, 0, none⟩ (.int .i64 d)).setCell ⟨w.heap.size, 1, none⟩ (.int .i64 (-b))).setCell ⟨w.heap.size, 2, none⟩ (.int .i64 (-c))).setCell ⟨w.heap.size, 3, none⟩ (.int .i64 a)) (w.heap.size + 1) [.int .i64 0, .int .i64 0, .int .i64 0, .int .i64 0] := ((((R3.far (by dsimp only; omega) _).far (by dsimp only; omega) _).far (by dsimp only; omega) _).far (by dsimp only; omega) _)
  have T4 : Below w.heap.size w ((((w3.setCell ⟨w.heap.size, 0, none⟩ (.int .i64 d)).setCell ⟨w.heap.size, 1, none⟩ (.int .i64 (-b))).setCell ⟨w.heap.size, 2, none⟩ (.int .i64 (-c))).setCell ⟨w.heap.size, 3, none⟩ (.int .i64 a)) := by repeat (first | with_reducible exact own_refl _ | with_reducible assumption | with_reducible apply own_alloc | with_reducible apply own_drewN | with_reducible apply own_drew | ((with_reducible refine own_setCell ?_ ?_ _); rotate_left; focus (first | (simp; done) | (simp; omega))) | (with_reducible (refine own_trans ?_ (by assumption))))
  clear M1 R1 T1 M3 R3 T3 hb3
  generalize ((((w3.setCell ⟨w.heap.size, 0, none⟩ (.int .i64 d)).setCell ⟨w.heap.size, 1, none⟩ (.int .i64 (-b))).setCell ⟨w.heap.size, 2, none⟩ (.int .i64 (-c))).setCell ⟨w.heap.size, 3, none⟩ (.int .i64 a)) = w4 at M4 R4 T4 ⊢
  have X4 : Idn w4 := Rd.below hid T4
  obtain ⟨_, _, _, _, _, _, _, _, _⟩ := M4.four
  go_wp2_with fail
  refine (implPbs_any ⟨d, -b, -c, a⟩ k hk HI.out r x HP.out _ X4).mono ?_
  rintro e w5 ⟨rfl, hb5⟩
  obtain ⟨_, d0, d1, d2, d3, _, _, _, _⟩ := (R4.below hb5).four
  go_wp2
  exact bodyPost_ret (v := .tuple #[(.agg #[.int .i64 r.a, .int .i64 r.b, .int .i64 r.c, .int .i64 r.d]), (.int .i64 x)]) (by simp [results, Tryd.results27, go_sem, d0, d1, d2, d3]) rfl ⟨rfl, by repeat (first | with_reducible exact own_refl _ | with_reducible assumption | with_reducible apply own_alloc | with_reducible apply own_drewN | with_reducible apply own_drew | ((with_reducible refine own_setCell ?_ ?_ _); rotate_left; focus (first | (simp; done) | (simp; omega))) | (with_reducible (refine own_trans ?_ (by assumption))))⟩

/-- What spec.l01Power comes to, told by PB: the matrix where there is one. -/
def PQ (m : Mat) (k : Nat) (r : Mat) (x : Int) : Prop := ∀ w : World, Calls Tryd.prog 56 #[(.agg #[.int .i64 m.a, .int .i64 m.b, .int .i64 m.c, .int .i64 m.d]), (.int .i64 k)] w fun e w' => ∃ (y : Mat) (b : Bool), e = .returned (.tuple #[(.agg #[.int .i64 y.a, .int .i64 y.b, .int .i64 y.c, .int .i64 y.d]), .bool b]) ∧ ((b = true ∧ r = y ∧ x = 0) ∨ (b = false ∧ r = Mat.zero ∧ x = 3)) ∧ Below w.heap.size w w'
theorem kind_small {a b c d : Int} (h : kind a b c d < 2) : (b = 0 ∧ c = 0) ∨ (a + d).natAbs < 2 := by
  unfold kind at h
  by_cases h0 : b = 0 ∧ c = 0
  · exact .inl h0
  · rw [if_neg h0] at h
    by_cases h1 : (a + d).natAbs < 2
    · exact .inr h1
    · rw [if_neg h1] at h
      split at h <;> omega
theorem PQ_of {m r : Mat} {k : Nat} {x : Int} (hm : m.is = true) (hk : k ≤ 1000000) (hp : PB Mat.one m k r x) : PQ m k r x := by
  intro w
  obtain ⟨a, b, c, d⟩ := m
  by_cases hkd : kind a b c d < 2
  · have hs := kind_small hkd
    have hall : ∀ n, (Mat.pow ⟨a, b, c, d⟩ n).ok = true := fun n => (Mat.small_all hm hs n).1
    refine (specPow_small ⟨a, b, c, d⟩ k hk hm _ hkd rfl hall w).mono ?_
    rintro e w' ⟨rfl, hb⟩
    have h1 := pbs_small hall k 0 1
    rw [Mat.pow_one', show Mat.pow ⟨a, b, c, d⟩ 0 = Mat.one from rfl, Nat.zero_add, Nat.one_mul] at h1
    obtain ⟨h2, h3⟩ := hp.some h1
    refine ⟨_, _, rfl, .inl ⟨rfl, ?_, h3⟩, hb⟩
    rw [h2]
    exact (Mat.small_all hm hs k).2
  · refine (specPow_big ⟨a, b, c, d⟩ k hk hm _ (show 2 ≤ kind a b c d by omega) rfl w).mono ?_
    rintro e w' ⟨y, b', rfl, hps, hb⟩
    refine ⟨y, b', rfl, ?_, hb⟩
    rcases hps with ⟨h1, h2⟩ | ⟨h1, h2⟩
    · obtain ⟨h3, h4⟩ := hp.some h1
      exact .inl ⟨h2, h3, h4⟩
    · obtain ⟨h3, h4⟩ := hp.none h1
      exact .inr ⟨h2, h3, h4⟩

set_option maxHeartbeats 1000000 in
theorem specPow_no (a b c d n : Int) (h : isM a b c d = false) (w : World) :
    Calls Tryd.prog 26 #[(.agg #[.int .i64 a, .int .i64 b, .int .i64 c, .int .i64 d]), (.int .i64 n)] w fun e w' => e = .returned (.tuple #[(.agg #[.int .i64 0, .int .i64 0, .int .i64 0, .int .i64 0]), (.int .i64 1)]) ∧ Below w.heap.size w w' := by
  have H := Lib.hid h
  clear h
  go_enter Tryd.func26, Tryd.ntmps26
  go_wp2_with fail
  refine (l01Is_is false _ _ _ _ _ H.out).mono ?_
  rintro e w1 ⟨rfl, hb1⟩
  have R1 : Box w1 (w.heap.size + 1) [.int .i64 0, .int .i64 0, .int .i64 0, .int .i64 0] := Box.below (Box.newAt (by simp) _ _) hb1
  obtain ⟨_, d0, d1, d2, d3, _, _, _, _⟩ := R1.four
  go_wp2
  exact bodyPost_ret (v := .tuple #[(.agg #[.int .i64 0, .int .i64 0, .int .i64 0, .int .i64 0]), (.int .i64 1)]) (by simp [results, Tryd.results26, go_sem, d0, d1, d2, d3]) rfl ⟨rfl, by repeat (first | with_reducible exact own_refl _ | with_reducible assumption | with_reducible apply own_alloc | with_reducible apply own_drewN | with_reducible apply own_drew | ((with_reducible refine own_setCell ?_ ?_ _); rotate_left; focus (first | (simp; done) | (simp; omega))) | (with_reducible (refine own_trans ?_ (by assumption))))⟩
set_option maxHeartbeats 1000000 in
theorem specPow_range (a b c d n : Int) (h : isM a b c d = true) (hn : inR n (-1000000) 1000000 = false) (w : World) :
    Calls Tryd.prog 26 #[(.agg #[.int .i64 a, .int .i64 b, .int .i64 c, .int .i64 d]), (.int .i64 n)] w fun e w' => e = .returned (.tuple #[(.agg #[.int .i64 0, .int .i64 0, .int .i64 0, .int .i64 0]), (.int .i64 2)]) ∧ Below w.heap.size w w' := by
  have H := Lib.hid h
  have HN := Lib.hid hn
  clear h hn
  go_enter Tryd.func26, Tryd.ntmps26
  go_wp2_with fail
  refine (l01Is_is true _ _ _ _ _ H.out).mono ?_
  rintro e w1 ⟨rfl, hb1⟩
  have R1 : Box w1 (w.heap.size + 1) [.int .i64 0, .int .i64 0, .int .i64 0, .int .i64 0] := Box.below (Box.newAt (by simp) _ _) hb1
  obtain ⟨_, d0, d1, d2, d3, _, _, _, _⟩ := R1.four
  go_wp2_with fail
  refine (l01In_is false _ _ _ HN.out _).mono ?_
  rintro e w2 ⟨rfl, rfl⟩
  go_wp2
  exact bodyPost_ret (v := .tuple #[(.agg #[.int .i64 0, .int .i64 0, .int .i64 0, .int .i64 0]), (.int .i64 2)]) (by simp [results, Tryd.results26, go_sem, d0, d1, d2, d3]) rfl ⟨rfl, by repeat (first | with_reducible exact own_refl _ | with_reducible assumption | with_reducible apply own_alloc | with_reducible apply own_drewN | with_reducible apply own_drew | ((with_reducible refine own_setCell ?_ ?_ _); rotate_left; focus (first | (simp; done) | (simp; omega))) | (with_reducible (refine own_trans ?_ (by assumption))))⟩
set_option maxHeartbeats 2000000 in
theorem specPow_pos (a b c d : Int) (k : Nat) (r : Mat) (x : Int) (h : isM a b c d = true) (hk : k ≤ 1000000) (hp : PQ ⟨a, b, c, d⟩ k r x) (w : World) :
    Calls Tryd.prog 26 #[(.agg #[.int .i64 a, .int .i64 b, .int .i64 c, .int .i64 d]), (.int .i64 k)] w fun e w' => e = .returned (.tuple #[(.agg #[.int .i64 r.a, .int .i64 r.b, .int .i64 r.c, .int .i64 r.d]), (.int .i64 x)]) ∧ Below w.heap.size w w' := by
  obtain ⟨ea, eb, ec, ed, _⟩ := isM_ent h
  have H := Lib.hid h
  have HP := Lib.hid hp
  have HN := Lib.hid (show inR ((k : Int)) (-1000000) 1000000 = true by simp [inR]; omega)
  skip
  clear h hp
  go_enter Tryd.func26, Tryd.ntmps26
  go_wp2_with fail
  refine (l01Is_is true _ _ _ _ _ H.out).mono ?_
  rintro e w1 ⟨rfl, hb1⟩
  have M1 : Box w1 w.heap.size [.int .i64 a, .int .i64 b, .int .i64 c, .int .i64 d] := Box.below (Box.alloc (Box.new _ _ _) _) hb1
  have R1 : Box w1 (w.heap.size + 1) [.int .i64 0, .int .i64 0, .int .i64 0, .int .i64 0] := Box.below (Box.newAt (by simp) _ _) hb1
  have T1 : Below w.heap.size w w1 := by repeat (first | with_reducible exact own_refl _ | with_reducible assumption | with_reducible apply own_alloc | with_reducible apply own_drewN | with_reducible apply own_drew | ((with_reducible refine own_setCell ?_ ?_ _); rotate_left; focus (first | (simp; done) | (simp; omega))) | (with_reducible (refine own_trans ?_ (by assumption))))
  clear hb1
  obtain ⟨_, _, _, _, _, _, _, _, _⟩ := M1.four
  go_wp2_with fail
  refine (l01In_is true _ _ _ HN.out _).mono ?_
  rintro e w2 ⟨rfl, rfl⟩
  go_wp2_with fail
  refine (HP.out _).mono ?_
  rintro e w5 ⟨y, b, rfl, hyb, hb5⟩
  have R5 := R1.below hb5
  have T5 := own_trans T1 hb5
  obtain ⟨_, d0, d1, d2, d3, _, _, _, _⟩ := R5.four
  have n5 : ¬ (w5.heap.size = w.heap.size + 1) := Nat.ne_of_gt R5.1
  have n5' : ¬ (w.heap.size + 1 = w5.heap.size) := Nat.ne_of_lt R5.1
  rcases hyb with ⟨hb, hr, hx⟩ | ⟨hb, hr, hx⟩
  · subst hb hr hx
    go_wp2
    have F := (R5.put4 (.int .i64 r.a) (.int .i64 r.b) (.int .i64 r.c) (.int .i64 r.d)).alloc (.cells #[.int .i64 r.a, .int .i64 r.b, .int .i64 r.c, .int .i64 r.d] 26)
    obtain ⟨_, g0, g1, g2, g3, _, _, _, _⟩ := F.four
    exact bodyPost_ret (v := .tuple #[(.agg #[.int .i64 r.a, .int .i64 r.b, .int .i64 r.c, .int .i64 r.d]), (.int .i64 0)]) (by simp [results, Tryd.results26, go_sem, g0, g1, g2, g3]) rfl ⟨rfl, by repeat (first | with_reducible exact own_refl _ | with_reducible assumption | with_reducible apply own_alloc | with_reducible apply own_drewN | with_reducible apply own_drew | ((with_reducible refine own_setCell ?_ ?_ _); rotate_left; focus (first | (simp; done) | (simp; omega))) | (with_reducible (refine own_trans ?_ (by assumption))))⟩
  · subst hb hr hx
    go_wp2
    have F := (R5.put4 (.int .i64 0) (.int .i64 0) (.int .i64 0) (.int .i64 0)).alloc (.cells #[.int .i64 y.a, .int .i64 y.b, .int .i64 y.c, .int .i64 y.d] 26)
    obtain ⟨_, g0, g1, g2, g3, _, _, _, _⟩ := F.four
    exact bodyPost_ret (v := .tuple #[(.agg #[.int .i64 0, .int .i64 0, .int .i64 0, .int .i64 0]), (.int .i64 3)]) (by simp [results, Tryd.results26, go_sem, g0, g1, g2, g3]) rfl ⟨rfl, by repeat (first | with_reducible exact own_refl _ | with_reducible assumption | with_reducible apply own_alloc | with_reducible apply own_drewN | with_reducible apply own_drew | ((with_reducible refine own_setCell ?_ ?_ _); rotate_left; focus (first | (simp; done) | (simp; omega))) | (with_reducible (refine own_trans ?_ (by assumption))))⟩
set_option maxHeartbeats 2000000 in
theorem specPow_neg (a b c d : Int) (k : Nat) (r : Mat) (x : Int) (h : isM a b c d = true) (hk0 : 0 < k) (hk : k ≤ 1000000) (hp : PQ ⟨d, -b, -c, a⟩ k r x) (w : World) :
    Calls Tryd.prog 26 #[(.agg #[.int .i64 a, .int .i64 b, .int .i64 c, .int .i64 d]), (.int .i64 (-(k : Int)))] w fun e w' => e = .returned (.tuple #[(.agg #[.int .i64 r.a, .int .i64 r.b, .int .i64 r.c, .int .i64 r.d]), (.int .i64 x)]) ∧ Below w.heap.size w w' := by
  obtain ⟨ea, eb, ec, ed, _⟩ := isM_ent h
  have H := Lib.hid h
  have HP := Lib.hid hp
  have HN := Lib.hid (show inR (-(k : Int)) (-1000000) 1000000 = true by simp [inR]; omega)
  have hneg : -(k : Int) < 0 := by omega
  clear h hp
  go_enter Tryd.func26, Tryd.ntmps26
  go_wp2_with fail
  refine (l01Is_is true _ _ _ _ _ H.out).mono ?_
  rintro e w1 ⟨rfl, hb1⟩
  have M1 : Box w1 w.heap.size [.int .i64 a, .int .i64 b, .int .i64 c, .int .i64 d] := Box.below (Box.alloc (Box.new _ _ _) _) hb1
  have R1 : Box w1 (w.heap.size + 1) [.int .i64 0, .int .i64 0, .int .i64 0, .int .i64 0] := Box.below (Box.newAt (by simp) _ _) hb1
  have T1 : Below w.heap.size w w1 := by repeat (first | with_reducible exact own_refl _ | with_reducible assumption | with_reducible apply own_alloc | with_reducible apply own_drewN | with_reducible apply own_drew | ((with_reducible refine own_setCell ?_ ?_ _); rotate_left; focus (first | (simp; done) | (simp; omega))) | (with_reducible (refine own_trans ?_ (by assumption))))
  clear hb1
  obtain ⟨_, _, _, _, _, _, _, _, _⟩ := M1.four
  go_wp2_with fail
  refine (l01In_is true _ _ _ HN.out _).mono ?_
  rintro e w2 ⟨rfl, rfl⟩
  go_wp2_with fail
  refine (specInverse_ent _ _ _ _ eb ec _).mono ?_
  rintro e w3 ⟨rfl, hb3⟩
  have M3 := M1.below hb3
  have R3 := R1.below hb3
  have T3 := own_trans T1 hb3
  obtain ⟨_, _, _, _, _, _, _, _, _⟩ := M3.four
  go_upto_region 7 with fail
  have M4 : Box ((((w3.setCell ⟨w.heap.size, 0, none⟩ (.int .i64 d)).setCell ⟨w.heap.size, 1, none⟩ (.int .i64 (-b))).setCell ⟨w.heap.size, 2, none⟩ (.int .i64 (-c))).setCell ⟨w.heap.size, 3, none⟩ (.int .i64 a)) w.heap.size [.int .i64 d, .int .i64 (-b), .int .i64 (-c), .int .i64 a] := M3.put4 _ _ _ _
  have R4 : Box ((((w3.setCell ⟨w.heap.size, 0, none⟩ (.int .i64 d)).setCell ⟨w.heap.size, 1, none⟩ (.int .i64 (-b))).setCell ⟨w.heap.size, 2, none⟩ (.int .i64 (-c))).setCell ⟨w.heap.size, 3, none⟩ (.int .i64 a)) (w.heap.size + 1) [.int .i64 0, .int .i64 0, .int .i64 0, .int .i64 0] := ((((R3.far (by dsimp only; omega) _).far (by dsimp only; omega) _).far (by dsimp only; omega) _).far (by dsimp only; omega) _)
  have T4 : Below w.heap.size w ((((w3.setCell ⟨w.heap.size, 0, none⟩ (.int .i64 d)).setCell ⟨w.heap.size, 1, none⟩ (.int .i64 (-b))).setCell ⟨w.heap.size, 2, none⟩ (.int .i64 (-c))).setCell ⟨w.heap.size, 3, none⟩ (.int .i64 a)) := by repeat (first | with_reducible exact own_refl _ | with_reducible assumption | with_reducible apply own_alloc | with_reducible apply own_drewN | with_reducible apply own_drew | ((with_reducible refine own_setCell ?_ ?_ _); rotate_left; focus (first | (simp; done) | (simp; omega))) | (with_reducible (refine own_trans ?_ (by assumption))))
  clear M1 R1 T1 M3 R3 T3 hb3
  generalize ((((w3.setCell ⟨w.heap.size, 0, none⟩ (.int .i64 d)).setCell ⟨w.heap.size, 1, none⟩ (.int .i64 (-b))).setCell ⟨w.heap.size, 2, none⟩ (.int .i64 (-c))).setCell ⟨w.heap.size, 3, none⟩ (.int .i64 a)) = w4 at M4 R4 T4 ⊢
  obtain ⟨_, _, _, _, _, _, _, _, _⟩ := M4.four
  go_wp2_with fail
  refine (HP.out _).mono ?_
  rintro e w5 ⟨y, b, rfl, hyb, hb5⟩
  have R5 := R4.below hb5
  have T5 := own_trans T4 hb5
  obtain ⟨_, d0, d1, d2, d3, _, _, _, _⟩ := R5.four
  have n5 : ¬ (w5.heap.size = w.heap.size + 1) := Nat.ne_of_gt R5.1
  have n5' : ¬ (w.heap.size + 1 = w5.heap.size) := Nat.ne_of_lt R5.1
  rcases hyb with ⟨hb, hr, hx⟩ | ⟨hb, hr, hx⟩
  · subst hb hr hx
    go_wp2
    have F := (R5.put4 (.int .i64 r.a) (.int .i64 r.b) (.int .i64 r.c) (.int .i64 r.d)).alloc (.cells #[.int .i64 r.a, .int .i64 r.b, .int .i64 r.c, .int .i64 r.d] 26)
    obtain ⟨_, g0, g1, g2, g3, _, _, _, _⟩ := F.four
    exact bodyPost_ret (v := .tuple #[(.agg #[.int .i64 r.a, .int .i64 r.b, .int .i64 r.c, .int .i64 r.d]), (.int .i64 0)]) (by simp [results, Tryd.results26, go_sem, g0, g1, g2, g3]) rfl ⟨rfl, by repeat (first | with_reducible exact own_refl _ | with_reducible assumption | with_reducible apply own_alloc | with_reducible apply own_drewN | with_reducible apply own_drew | ((with_reducible refine own_setCell ?_ ?_ _); rotate_left; focus (first | (simp; done) | (simp; omega))) | (with_reducible (refine own_trans ?_ (by assumption))))⟩
  · subst hb hr hx
    go_wp2
    have F := (R5.put4 (.int .i64 0) (.int .i64 0) (.int .i64 0) (.int .i64 0)).alloc (.cells #[.int .i64 y.a, .int .i64 y.b, .int .i64 y.c, .int .i64 y.d] 26)
    obtain ⟨_, g0, g1, g2, g3, _, _, _, _⟩ := F.four
    exact bodyPost_ret (v := .tuple #[(.agg #[.int .i64 0, .int .i64 0, .int .i64 0, .int .i64 0]), (.int .i64 3)]) (by simp [results, Tryd.results26, go_sem, g0, g1, g2, g3]) rfl ⟨rfl, by repeat (first | with_reducible exact own_refl _ | with_reducible assumption | with_reducible apply own_alloc | with_reducible apply own_drewN | with_reducible apply own_drew | ((with_reducible refine own_setCell ?_ ?_ _); rotate_left; focus (first | (simp; done) | (simp; omega))) | (with_reducible (refine own_trans ?_ (by assumption))))⟩
theorem lawPowerOf_walk (a b c d n : Int) (_ : I64 a) (_ : I64 b) (_ : I64 c) (_ : I64 d) (_ : I64 n) (w : World) (hid : Idn w) :
    Calls Tryd.prog 7 #[(.agg #[.int .i64 a, .int .i64 b, .int .i64 c, .int .i64 d]), (.int .i64 n)] w fun e w' => e = .returned (.bool true) ∧ Below w.heap.size w w' := by
  rcases h : isM a b c d with _ | _
  · exact lawPowerOf_of a b c d n 0 0 0 0 1 (fun w => specPow_no a b c d n h w) (fun w _ => implPow_no a b c d n h w) w hid
  rcases hn : inW n 1000000 with _ | _
  · have hn' : inR n (-1000000) 1000000 = false := by
      have := of_decide_eq_false hn
      exact decide_eq_false this
    exact lawPowerOf_of a b c d n 0 0 0 0 2 (fun w => specPow_range a b c d n h hn' w) (fun w _ => implPow_range a b c d n h hn w) w hid
  · have hb := of_decide_eq_true hn
    by_cases h0 : 0 ≤ n
    · obtain ⟨k, rfl⟩ : ∃ k : Nat, n = k := ⟨n.toNat, by omega⟩
      obtain ⟨r, x, hp⟩ := PB.ex Mat.one ⟨a, b, c, d⟩ k
      have hm : (⟨a, b, c, d⟩ : Mat).is = true := h
      exact lawPowerOf_of a b c d k r.a r.b r.c r.d x (fun w => specPow_pos a b c d k r x h (by omega) (PQ_of hm (by omega) hp) w) (fun w hi => implPow_pos a b c d k r x h (by omega) hp w hi) w hid
    · obtain ⟨k, hk0, rfl⟩ : ∃ k : Nat, 0 < k ∧ n = -(k : Int) := ⟨(-n).toNat, by omega, by omega⟩
      obtain ⟨r, x, hp⟩ := PB.ex Mat.one ⟨d, -b, -c, a⟩ k
      exact lawPowerOf_of a b c d _ r.a r.b r.c r.d x (fun w => specPow_neg a b c d k r x h hk0 (by omega) (PQ_of (inv_is h) (by omega) hp) w) (fun w hi => implPow_neg a b c d k r x h hk0 (by omega) hp w hi) w hid
end Go.Proofs.YtempjimoiipkmaaDoor
