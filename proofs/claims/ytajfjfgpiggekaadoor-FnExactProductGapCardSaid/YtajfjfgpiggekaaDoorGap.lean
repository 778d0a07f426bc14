/- ProductGap: contracts of both sides. -/
import Derived.Test.YtajfjfgpiggekaaDoorLFst
import Derived.Test.YtajfjfgpiggekaaDoorProd
import Derived.Test.YtajfjfgpiggekaaDoorTM
import Derived.OwnWalk
namespace Go.Proofs.YtajfjfgpiggekaaDoor
open Go.ChangeShapes Go.WideShapes Go.ChangeAt Go.RowKit

theorem mul_isG {p m : Mat} (hp : p.is = true) (hm : m.is = true) (h : (p.mul m).ok = true) : (p.mul m).is = true := by
  obtain ⟨_, _, _, _, hd⟩ := Mat.is_ent hp
  obtain ⟨_, _, _, _, hd'⟩ := Mat.is_ent hm
  obtain ⟨ha, hb, hc, he⟩ := Mat.ok_ent h
  refine decide_eq_true ⟨ha, hb, hc, he, ?_⟩
  simp only [Mat.mul]
  have e : (p.a * m.a + p.b * m.c) * (p.c * m.b + p.d * m.d) - (p.a * m.b + p.b * m.d) * (p.c * m.a + p.d * m.c) = (p.a * p.d - p.b * p.c) * (m.a * m.d - m.b * m.c) := by grind
  rw [e, hd, hd']
  rfl
theorem PA_two {m n : Mat} (hm : m.is = true) (hn : n.is = true) : ((m.mul n).ok = true → PA [m, n] (m.mul n) 0) ∧ ((m.mul n).ok = false → PA [m, n] Mat.zero 3) := by
  have ha : [m, n].all Mat.is = true := by simp [hm, hn]
  have e : prod Mat.one [m, n] = if (m.mul n).ok then some (m.mul n) else none := by
    rw [prod, Mat.one_mul, if_pos (Mat.is_ok hm), prod]
    rfl
  constructor
  · intro h; exact .inr (.inr ⟨ha, by rw [e, if_pos h], rfl⟩)
  · intro h; exact .inr (.inl ⟨ha, by rw [e, if_neg (by simp [h])], rfl, rfl⟩)
theorem allW3_is (r : Bool) (a b c : Int) (g : Nat) (w : World) (hr : allW [a, b, c] 20000 = r)
    (h0 : w.cell? ⟨g, 0, none⟩ = some (.int .i64 a)) (h1 : w.cell? ⟨g, 1, none⟩ = some (.int .i64 b)) (h2 : w.cell? ⟨g, 2, none⟩ = some (.int .i64 c)) :
    Calls Tryd.prog 16 #[.slice (some ⟨g, 0, none⟩) 3 3, .int .i64 20000] w fun e w' => e = .returned (.bool r) ∧ w = w' := by
  subst hr
  refine allWithin_any [a, b, c] 20000 (by omega) (by omega) g 0 3 (by simp) w ?_
  intro k hk
  have : k = 0 ∨ k = 1 ∨ k = 2 := by simp at hk; omega
  rcases this with rfl | rfl | rfl <;> simpa
theorem allW3_iff (a b c : Int) : allW [a, b, c] 20000 = decide ((a.natAbs : Int) ≤ 20000 ∧ (b.natAbs : Int) ≤ 20000 ∧ (c.natAbs : Int) ≤ 20000) := by
  rw [Bool.eq_iff_iff]
  simp [allW, inW]
  omega
theorem implGap_no (m n r : Mat) (k : Int) (hk : (k != 0) = true) (h : PA [m, n] r k) (w : World) (hid : Idn w) :
    Calls Tryd.prog 7 #[(.agg #[.int .i64 m.a, .int .i64 m.b, .int .i64 m.c, .int .i64 m.d]), (.agg #[.int .i64 n.a, .int .i64 n.b, .int .i64 n.c, .int .i64 n.d])] w fun e w' => e = .returned (.tuple #[(.int .i64 0), (.int .i64 k)]) ∧ Below w.heap.size w w' := by
  have H := Lib.hid (fun w hid => implProd_any m n r k h w hid)
  clear h
  go_enter Tryd.func7, Tryd.ntmps7
  go_wp2_with fail
  refine (H.out _ (Rd.alloc (Rd.alloc hid _) _)).mono ?_
  rintro e w1 ⟨rfl, hb1⟩
  go_wp2
  go_ret2
  exact ⟨rfl, by repeat (first | with_reducible exact own_refl _ | with_reducible assumption | with_reducible apply own_alloc | with_reducible apply own_drewN | with_reducible apply own_drew | ((with_reducible refine own_setCell ?_ ?_ _); rotate_left; focus (first | (simp; done) | (simp; omega))) | (with_reducible (refine own_trans ?_ (by assumption))))⟩
set_option maxHeartbeats 2000000 in
theorem implGap_big (m n r : Mat) (h : PA [m, n] r 0) (hb : allW [m.c, n.c, r.c] 20000 = false) (w : World) (hid : Idn w) :
    Calls Tryd.prog 7 #[(.agg #[.int .i64 m.a, .int .i64 m.b, .int .i64 m.c, .int .i64 m.d]), (.agg #[.int .i64 n.a, .int .i64 n.b, .int .i64 n.c, .int .i64 n.d])] w fun e w' => e = .returned (.tuple #[(.int .i64 0), (.int .i64 3)]) ∧ Below w.heap.size w w' := by
  have H := Lib.hid (fun w hid => implProd_any m n r 0 h w hid)
  have HB := Lib.hid hb
  clear h hb
  go_enter Tryd.func7, Tryd.ntmps7
  go_wp2_with fail
  refine (H.out _ (Rd.alloc (Rd.alloc hid _) _)).mono ?_
  rintro e w1 ⟨rfl, hb1⟩
  have BM : Box w1 w.heap.size [.int .i64 m.a, .int .i64 m.b, .int .i64 m.c, .int .i64 m.d] := Box.below ((Box.new _ _ _).alloc _) hb1
  have BN : Box w1 (w.heap.size + 1) [.int .i64 n.a, .int .i64 n.b, .int .i64 n.c, .int .i64 n.d] := Box.below (Box.newAt (by simp) _ _) hb1
  have T : Below w.heap.size w w1 := by repeat (first | with_reducible exact own_refl _ | with_reducible assumption | with_reducible apply own_alloc | with_reducible apply own_drewN | with_reducible apply own_drew | ((with_reducible refine own_setCell ?_ ?_ _); rotate_left; focus (first | (simp; done) | (simp; omega))) | (with_reducible (refine own_trans ?_ (by assumption))))
  clear hb1
  have BM := BM.alloc (.cells #[.int .i64 r.a, .int .i64 r.b, .int .i64 r.c, .int .i64 r.d] 25)
  have BN := BN.alloc (.cells #[.int .i64 r.a, .int .i64 r.b, .int .i64 r.c, .int .i64 r.d] 25)
  have BR : Box (w1.alloc (.cells #[.int .i64 r.a, .int .i64 r.b, .int .i64 r.c, .int .i64 r.d] 25)) w1.heap.size [.int .i64 r.a, .int .i64 r.b, .int .i64 r.c, .int .i64 r.d] := Box.new _ _ _
  have T := own_alloc T (.cells #[.int .i64 r.a, .int .i64 r.b, .int .i64 r.c, .int .i64 r.d] 25)
  go_upto_region 2 with fail
  generalize w1.alloc (.cells #[.int .i64 r.a, .int .i64 r.b, .int .i64 r.c, .int .i64 r.d] 25) = W at BM BN BR T ⊢
  generalize w1.heap.size = gr at BR ⊢
  obtain ⟨_, _, _, _, _, _, _, _, _⟩ := BM.four
  obtain ⟨_, _, _, _, _, _, _, _, _⟩ := BN.four
  obtain ⟨_, _, _, _, _, _, _, _, _⟩ := BR.four
  go_wp2_with fail
  refine (allW3_is false _ _ _ _ _ HB.out (Box.new _ _ _ |>.2 0 _ rfl).1 (Box.new _ _ _ |>.2 1 _ rfl).1 (Box.new _ _ _ |>.2 2 _ rfl).1).mono ?_
  rintro e w2 ⟨rfl, rfl⟩
  go_wp2
  go_ret2
  exact ⟨rfl, by repeat (first | with_reducible exact own_refl _ | with_reducible assumption | with_reducible apply own_alloc | with_reducible apply own_drewN | with_reducible apply own_drew | ((with_reducible refine own_setCell ?_ ?_ _); rotate_left; focus (first | (simp; done) | (simp; omega))) | (with_reducible (refine own_trans ?_ (by assumption))))⟩
set_option maxRecDepth 100000 in
set_option maxHeartbeats 4000000 in
theorem implGap_yes (m n r : Mat) (v : Int) (h : PA [m, n] r 0) (hm : m.is = true) (hn : n.is = true) (hr : r.is = true) (hb : allW [m.c, n.c, r.c] 20000 = true)
    (hv : fst r.a r.b r.c r.d - fst m.a m.b m.c m.d - fst n.a n.b n.c n.d = v) (w : World) (hid : Idn w) :
    Calls Tryd.prog 7 #[(.agg #[.int .i64 m.a, .int .i64 m.b, .int .i64 m.c, .int .i64 m.d]), (.agg #[.int .i64 n.a, .int .i64 n.b, .int .i64 n.c, .int .i64 n.d])] w fun e w' => e = .returned (.tuple #[(.int .i64 v), (.int .i64 0)]) ∧ Below w.heap.size w w' := by
  have H := Lib.hid (fun w hid => implProd_any m n r 0 h w hid)
  have HB := Lib.hid hb
  rw [allW3_iff] at hb
  obtain ⟨c1, c2, c3⟩ := of_decide_eq_true hb
  have HM := Lib.hid (fun w => firstNumber_any m.a m.b m.c m.d hm c1 w)
  have HN := Lib.hid (fun w => firstNumber_any n.a n.b n.c n.d hn c2 w)
  have HR := Lib.hid (fun w => firstNumber_any r.a r.b r.c r.d hr c3 w)
  have b1 := fst_bd hm c1
  have b2 := fst_bd hn c2
  have b3 := fst_bd hr c3
  have HV := Lib.hid hv
  generalize fst m.a m.b m.c m.d = x at *
  generalize fst n.a n.b n.c n.d = y at *
  generalize fst r.a r.b r.c r.d = z at *
  have w1 : IntKind.i64.wrap (z - x) = z - x := IntWalk.i64_in _ (by omega)
  have w2 : IntKind.i64.wrap (z - x - y) = z - x - y := IntWalk.i64_in _ (by omega)
  clear h hb hm hn hr hv c1 c2 c3 b1 b2 b3
  go_enter Tryd.func7, Tryd.ntmps7
  go_wp2_with fail
  refine (H.out _ (Rd.alloc (Rd.alloc hid _) _)).mono ?_
  rintro e w1 ⟨rfl, hb1⟩
  have BM : Box w1 w.heap.size [.int .i64 m.a, .int .i64 m.b, .int .i64 m.c, .int .i64 m.d] := Box.below ((Box.new _ _ _).alloc _) hb1
  have BN : Box w1 (w.heap.size + 1) [.int .i64 n.a, .int .i64 n.b, .int .i64 n.c, .int .i64 n.d] := Box.below (Box.newAt (by simp) _ _) hb1
  have T : Below w.heap.size w w1 := by repeat (first | with_reducible exact own_refl _ | with_reducible assumption | with_reducible apply own_alloc | with_reducible apply own_drewN | with_reducible apply own_drew | ((with_reducible refine own_setCell ?_ ?_ _); rotate_left; focus (first | (simp; done) | (simp; omega))) | (with_reducible (refine own_trans ?_ (by assumption))))
  clear hb1
  have BM := BM.alloc (.cells #[.int .i64 r.a, .int .i64 r.b, .int .i64 r.c, .int .i64 r.d] 25)
  have BN := BN.alloc (.cells #[.int .i64 r.a, .int .i64 r.b, .int .i64 r.c, .int .i64 r.d] 25)
  have BR : Box (w1.alloc (.cells #[.int .i64 r.a, .int .i64 r.b, .int .i64 r.c, .int .i64 r.d] 25)) w1.heap.size [.int .i64 r.a, .int .i64 r.b, .int .i64 r.c, .int .i64 r.d] := Box.new _ _ _
  have T := own_alloc T (.cells #[.int .i64 r.a, .int .i64 r.b, .int .i64 r.c, .int .i64 r.d] 25)
  go_upto_region 2 with fail
  generalize w1.alloc (.cells #[.int .i64 r.a, .int .i64 r.b, .int .i64 r.c, .int .i64 r.d] 25) = W at BM BN BR T ⊢
  generalize w1.heap.size = gr at BR ⊢
  obtain ⟨_, _, _, _, _, _, _, _, _⟩ := BM.four
  obtain ⟨_, _, _, _, _, _, _, _, _⟩ := BN.four
  obtain ⟨_, _, _, _, _, _, _, _, _⟩ := BR.four
  go_wp2_with fail
  refine (allW3_is true _ _ _ _ _ HB.out (Box.new _ _ _ |>.2 0 _ rfl).1 (Box.new _ _ _ |>.2 1 _ rfl).1 (Box.new _ _ _ |>.2 2 _ rfl).1).mono ?_
  rintro e w2 ⟨rfl, rfl⟩
  have BM := BM.alloc (.cells #[.int .i64 m.c, .int .i64 n.c, .int .i64 r.c] 2)
  have BN := BN.alloc (.cells #[.int .i64 m.c, .int .i64 n.c, .int .i64 r.c] 2)
  have BR := BR.alloc (.cells #[.int .i64 m.c, .int .i64 n.c, .int .i64 r.c] 2)
  have T := own_alloc T (.cells #[.int .i64 m.c, .int .i64 n.c, .int .i64 r.c] 2)
  go_upto_region 6 with fail
  generalize W.alloc (.cells #[.int .i64 m.c, .int .i64 n.c, .int .i64 r.c] 2) = V at BM BN BR T ⊢
  obtain ⟨_, _, _, _, _, _, _, _, _⟩ := BM.four
  obtain ⟨_, _, _, _, _, _, _, _, _⟩ := BN.four
  obtain ⟨_, _, _, _, _, _, _, _, _⟩ := BR.four
  go_region_held3 (fun w' => w'.cell? ⟨w.heap.size, 0, none⟩ = some (.int .i64 m.a) ∧ w'.cell? ⟨w.heap.size, 1, none⟩ = some (.int .i64 m.b) ∧ w'.cell? ⟨w.heap.size, 2, none⟩ = some (.int .i64 m.c) ∧ w'.cell? ⟨w.heap.size, 3, none⟩ = some (.int .i64 m.d) ∧
      w'.cell? ⟨w.heap.size + 1, 0, none⟩ = some (.int .i64 n.a) ∧ w'.cell? ⟨w.heap.size + 1, 1, none⟩ = some (.int .i64 n.b) ∧ w'.cell? ⟨w.heap.size + 1, 2, none⟩ = some (.int .i64 n.c) ∧ w'.cell? ⟨w.heap.size + 1, 3, none⟩ = some (.int .i64 n.d) ∧
      w'.cell? ⟨gr, 0, none⟩ = some (.int .i64 r.a) ∧ w'.cell? ⟨gr, 1, none⟩ = some (.int .i64 r.b) ∧ w'.cell? ⟨gr, 2, none⟩ = some (.int .i64 r.c) ∧ w'.cell? ⟨gr, 3, none⟩ = some (.int .i64 r.d)) (go_keep)
    (first | (go_at_call 17; (first | with_reducible refine (HR.out _).mono ?_ | with_reducible refine (HM.out _).mono ?_ | with_reducible refine (HN.out _).mono ?_); rintro e w2 ⟨rfl, hb2⟩; have T := (by first | exact own_trans T hb2 | exact own_trans (own_drew T) hb2 : Below w.heap.size w w2); have BM := Box.below (by first | exact BM | exact Box.drew BM) hb2; have BN := Box.below (by first | exact BN | exact Box.drew BN) hb2; have BR := Box.below (by first | exact BR | exact Box.drew BR) hb2; obtain ⟨_, _, _, _, _, _, _, _, _⟩ := BM.four; obtain ⟨_, _, _, _, _, _, _, _, _⟩ := BN.four; obtain ⟨_, _, _, _, _, _, _, _, _⟩ := BR.four))
  all_goals
    go_wp2
    go_ret2
    exact ⟨ret_int2 HV.out, by repeat (first | with_reducible exact own_refl _ | with_reducible assumption | with_reducible apply own_alloc | with_reducible apply own_drewN | with_reducible apply own_drew | ((with_reducible refine own_setCell ?_ ?_ _); rotate_left; focus (first | (simp; done) | (simp; omega))) | (with_reducible (refine own_trans ?_ (by assumption))))⟩
end Go.Proofs.YtajfjfgpiggekaaDoor
