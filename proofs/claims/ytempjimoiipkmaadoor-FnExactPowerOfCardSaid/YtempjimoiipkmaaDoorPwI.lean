/- impl.powerBySquares: contract. -/
import Derived.Test.YtempjimoiipkmaaDoorPow
import Derived.Test.YtempjimoiipkmaaDoorPA
namespace Go.Proofs.YtempjimoiipkmaaDoor
open Go.ChangeShapes Go.WideShapes Go.ChangeAt Go.RowKit

theorem PA_yes {p m : Mat} (hp : p.is = true) (hm : m.is = true) (h : (p.mul m).ok = true) : PA [p, m] (p.mul m) 0 := by
  refine .inr (.inr ⟨by simp [hp, hm], ?_, rfl⟩)
  rw [prod, Mat.one_mul', if_pos (Mat.is_ok hp), prod, if_pos h, prod]
theorem PA_no {p m : Mat} (hp : p.is = true) (hm : m.is = true) (h : (p.mul m).ok = false) : PA [p, m] Mat.zero 3 := by
  refine .inr (.inl ⟨by simp [hp, hm], ?_, rfl, rfl⟩)
  rw [prod, Mat.one_mul', if_pos (Mat.is_ok hp), prod, if_neg (by simp [h])]
/-- What powers by squares come to. -/
def PB (p m : Mat) (k : Nat) (r : Mat) (c : Int) : Prop := (pbs p m k = none ∧ r = Mat.zero ∧ c = 3) ∨ (pbs p m k = some r ∧ c = 0)
theorem PB.none {p m r : Mat} {k : Nat} {c : Int} (h : PB p m k r c) (e : pbs p m k = none) : r = Mat.zero ∧ c = 3 := by
  rcases h with ⟨_, h1, h2⟩ | ⟨h1, _⟩
  · exact ⟨h1, h2⟩
  · rw [e] at h1; cases h1
theorem PB.some {p m r q : Mat} {k : Nat} {c : Int} (h : PB p m k r c) (e : pbs p m k = some q) : r = q ∧ c = 0 := by
  rcases h with ⟨h1, _⟩ | ⟨h1, h2⟩
  · rw [e] at h1; cases h1
  · rw [e] at h1; injection h1 with h1; exact ⟨h1.symm, h2⟩
theorem PB.ex (p m : Mat) (k : Nat) : ∃ r c, PB p m k r c := by
  rcases h : pbs p m k with _ | r
  · exact ⟨_, _, .inl ⟨h, rfl, rfl⟩⟩
  · exact ⟨r, 0, .inr ⟨h, rfl⟩⟩
theorem PB.go {p m p' m' r : Mat} {k k' : Nat} {c : Int} (h : PB p m k r c) (e : pbs p m k = pbs p' m' k') : PB p' m' k' r c := by
  unfold PB at *; rwa [e] at h

set_option maxHeartbeats 4000000 in
theorem implPbs_any (m0 : Mat) (k0 : Nat) (hk0 : k0 ≤ 1000000) (hm0 : m0.is = true) (r : Mat) (c : Int) (h : PB Mat.one m0 k0 r c) (w : World) (hid : Idn w) :
    Calls Tryd.prog 58 #[(.agg #[.int .i64 m0.a, .int .i64 m0.b, .int .i64 m0.c, .int .i64 m0.d]), (.int .i64 k0)] w fun e w' => e = .returned (.tuple #[(.agg #[.int .i64 r.a, .int .i64 r.b, .int .i64 r.c, .int .i64 r.d]), (.int .i64 c)]) ∧ Below w.heap.size w w' := by
  have HPB := Lib.hid h
  have HM0 := Lib.hid hm0
  have IA : Idn ((w.alloc (.cells #[.int .i64 m0.a, .int .i64 m0.b, .int .i64 m0.c, .int .i64 m0.d] 26)).alloc (.cells #[.int .i64 0, .int .i64 0, .int .i64 0, .int .i64 0] 26)) := (Rd.alloc hid _).alloc _
  obtain ⟨_, i0, i1, i2, i3⟩ := Rd.four IA
  clear h hm0
  go_enter Tryd.func58, Tryd.ntmps58
  go_wp2
  obtain ⟨g4, hg4⟩ : ∃ g, w.heap.size + 1 = g := ⟨_, rfl⟩
  obtain ⟨g6, hg6⟩ : ∃ g, g4 + 1 = g := ⟨_, rfl⟩
  have G4 := Lib.hid hg4
  have G6 := Lib.hid hg6
  have e1 : ¬ (g4 = w.heap.size) := by omega
  have e2 : ¬ (g6 = w.heap.size) := by omega
  have e3 : ¬ (g6 = g4) := by omega
  have e1' : ¬ (w.heap.size = g4) := by omega
  have e2' : ¬ (w.heap.size = g6) := by omega
  have e3' : ¬ (g4 = g6) := by omega
  have l4 : w.heap.size ≤ g4 := by omega
  have l6 : w.heap.size ≤ g6 := by omega
  simp only [hg4, hg6]
  clear hg4 hg6
  go_loopw [1] (fun s wr => ∃ (k : Nat) (p m : Mat), s = (.int .i64 k) ∧ k ≤ 1000000 ∧ Hid (PB p m k r c) ∧ Hid (p.is = true) ∧ Hid (m.is = true) ∧ Below w.heap.size w wr ∧ Box wr w.heap.size m.cells ∧ Box wr g4 [.int .i64 0, .int .i64 0, .int .i64 0, .int .i64 0] ∧ Box wr g6 p.cells) (fun s _ => (intOf s).toNat)
  case atStart => exact ⟨k0, Mat.one, m0, rfl, hk0, HPB, Lib.hid Mat.one_is, HM0, by repeat (first | with_reducible exact own_refl _ | with_reducible assumption | with_reducible apply own_alloc | with_reducible apply own_drewN | with_reducible apply own_drew | ((with_reducible refine own_setCell ?_ ?_ _); rotate_left; focus (first | (simp; done) | (simp; omega))) | (with_reducible (refine own_trans ?_ (by assumption)))), Box.alloc (Box.alloc (Box.new _ _ _) _) _, Box.alloc (Box.newAt (by simp [← G4.out]) _ _) _, Box.newAt (by simp [← G6.out, ← G4.out]) _ _⟩
  case round =>
    obtain ⟨k, p, m, rfl, hk, HP, HPI, HMI, hb, hM, hR, hP⟩ := hrel
    obtain ⟨_, _, _, _, _, _, _, _, _⟩ := hM.four
    obtain ⟨_, d0, d1, d2, d3, _, _, _, _⟩ := hR.four
    obtain ⟨_, _, _, _, _, _, _, _, _⟩ := hP.four
    have IX : Idn wr := Rd.below hid hb
    have n1 : ¬ (wr.heap.size = w.heap.size) := Nat.ne_of_gt hM.1
    have n2 : ¬ (wr.heap.size = g4) := Nat.ne_of_gt hR.1
    have n3 : ¬ (wr.heap.size = g6) := Nat.ne_of_gt hP.1
    by_cases hk0' : k = 0
    · subst hk0'
      obtain ⟨hr1, hr2⟩ := HP.out.some (pbs_zero p m)
      go_wp2
      refine bodyPost_ret (v := .tuple #[(.agg #[.int .i64 p.a, .int .i64 p.b, .int .i64 p.c, .int .i64 p.d]), (.int .i64 0)]) (by simp [results, Tryd.results58, go_sem, d0, d1, d2, d3]) rfl ⟨?_, by repeat (first | with_reducible exact own_refl _ | with_reducible assumption | with_reducible apply own_alloc | with_reducible apply own_drewN | with_reducible apply own_drew | ((with_reducible refine own_setCell ?_ ?_ _); rotate_left; focus (first | (simp; done) | (simp; omega))) | (with_reducible (refine own_trans ?_ (by assumption))))⟩
      rw [hr1, hr2]
    rcases (show k % 2 = 1 ∨ k % 2 = 0 by omega) with hpar | hpar
    · rcases hok : (p.mul m).ok with _ | _
      · skip
        have q1 : (k : Int).tmod 2 = 1 := by rw [Int.tmod_eq_emod_of_nonneg (by omega)]; omega
        obtain ⟨j, hjn⟩ : ∃ j : Nat, k / 2 = j := ⟨_, rfl⟩
        have hj : (k : Int).tdiv 2 = j := by rw [Int.tdiv_eq_ediv_of_nonneg (by omega)]; omega
        have hj' := Lib.hid hjn
        have hj2 : 2 * (j : Int) ≤ k := by omega
        clear hjn
        have hkp : 0 < (k : Int) := by omega
        have HPA := Lib.hid (PA_no HPI.out HMI.out hok)
        obtain ⟨hr1, hr2⟩ := HP.out.none (pbs_odd_no (by omega) hok)
        clear HP hok
        go_wp2_with fail
        refine (prodAll_any [p, m] wr.heap.size 2 (by simp) _ _ HPA.out _ (Rd.alloc IX _) (Box.new _ _ _)).mono ?_
        rintro e w1 ⟨rfl, hb1⟩
        have M1 := Box.below (Box.alloc hM _) hb1
        have R1 := Box.below (Box.alloc hR _) hb1
        have P1 := Box.below (Box.alloc hP _) hb1
        have X1 : Idn w1 := Rd.below (Rd.alloc IX _) hb1
        have T1 : Below w.heap.size w w1 := own_trans (own_alloc hb _) hb1
        obtain ⟨_, _, _, _, _, _, _, _, _⟩ := M1.four
        obtain ⟨_, d0, d1, d2, d3, _, _, _, _⟩ := R1.four
        obtain ⟨_, _, _, _, _, _, _, _, _⟩ := P1.four
        have n1 : ¬ (w1.heap.size = w.heap.size) := Nat.ne_of_gt M1.1
        have n2 : ¬ (w1.heap.size = g4) := Nat.ne_of_gt R1.1
        have n3 : ¬ (w1.heap.size = g6) := Nat.ne_of_gt P1.1
        go_upto_region 6 with fail
        have M2 : Box ((((w1.setCell ⟨g6, 0, none⟩ (.int .i64 Mat.zero.a)).setCell ⟨g6, 1, none⟩ (.int .i64 Mat.zero.b)).setCell ⟨g6, 2, none⟩ (.int .i64 Mat.zero.c)).setCell ⟨g6, 3, none⟩ (.int .i64 Mat.zero.d)) w.heap.size m.cells := ((((M1.far (by dsimp only; omega) _).far (by dsimp only; omega) _).far (by dsimp only; omega) _).far (by dsimp only; omega) _)
        have R2 : Box ((((w1.setCell ⟨g6, 0, none⟩ (.int .i64 Mat.zero.a)).setCell ⟨g6, 1, none⟩ (.int .i64 Mat.zero.b)).setCell ⟨g6, 2, none⟩ (.int .i64 Mat.zero.c)).setCell ⟨g6, 3, none⟩ (.int .i64 Mat.zero.d)) g4 [.int .i64 0, .int .i64 0, .int .i64 0, .int .i64 0] := ((((R1.far (by dsimp only; omega) _).far (by dsimp only; omega) _).far (by dsimp only; omega) _).far (by dsimp only; omega) _)
        have P2 : Box ((((w1.setCell ⟨g6, 0, none⟩ (.int .i64 Mat.zero.a)).setCell ⟨g6, 1, none⟩ (.int .i64 Mat.zero.b)).setCell ⟨g6, 2, none⟩ (.int .i64 Mat.zero.c)).setCell ⟨g6, 3, none⟩ (.int .i64 Mat.zero.d)) g6 Mat.zero.cells := P1.put4 _ _ _ _
        have T2 : Below w.heap.size w ((((w1.setCell ⟨g6, 0, none⟩ (.int .i64 Mat.zero.a)).setCell ⟨g6, 1, none⟩ (.int .i64 Mat.zero.b)).setCell ⟨g6, 2, none⟩ (.int .i64 Mat.zero.c)).setCell ⟨g6, 3, none⟩ (.int .i64 Mat.zero.d)) := by repeat (first | with_reducible exact own_refl _ | with_reducible assumption | with_reducible apply own_alloc | with_reducible apply own_drewN | with_reducible apply own_drew | ((with_reducible refine own_setCell ?_ ?_ _); rotate_left; focus (first | (simp; done) | (simp; omega))) | (with_reducible (refine own_trans ?_ (by assumption))))
        clear M1 R1 P1 X1 n1 n2 n3 IX hM hR hP hb hb1 T1
        generalize ((((w1.setCell ⟨g6, 0, none⟩ (.int .i64 Mat.zero.a)).setCell ⟨g6, 1, none⟩ (.int .i64 Mat.zero.b)).setCell ⟨g6, 2, none⟩ (.int .i64 Mat.zero.c)).setCell ⟨g6, 3, none⟩ (.int .i64 Mat.zero.d)) = w2 at M2 R2 P2 T2 ⊢
        have X2 : Idn w2 := Rd.below hid T2
        obtain ⟨_, _, _, _, _, _, _, _, _⟩ := M2.four
        obtain ⟨_, d0, d1, d2, d3, _, _, _, _⟩ := R2.four
        obtain ⟨_, _, _, _, _, _, _, _, _⟩ := P2.four
        have n1 : ¬ (w2.heap.size = w.heap.size) := Nat.ne_of_gt M2.1
        have n2 : ¬ (w2.heap.size = g4) := Nat.ne_of_gt R2.1
        have n3 : ¬ (w2.heap.size = g6) := Nat.ne_of_gt P2.1
        go_wp2
        refine bodyPost_ret (v := .tuple #[(.agg #[.int .i64 0, .int .i64 0, .int .i64 0, .int .i64 0]), (.int .i64 3)]) (by simp [results, Tryd.results58, go_sem, d0, d1, d2, d3]) rfl ⟨?_, by repeat (first | with_reducible exact own_refl _ | with_reducible assumption | with_reducible apply own_alloc | with_reducible apply own_drewN | with_reducible apply own_drew | ((with_reducible refine own_setCell ?_ ?_ _); rotate_left; focus (first | (simp; done) | (simp; omega))) | (with_reducible (refine own_trans ?_ (by assumption))))⟩
        rw [hr1, hr2]
        rfl
      by_cases hne : k = 1
      · skip
        have q1 : (k : Int).tmod 2 = 1 := by rw [Int.tmod_eq_emod_of_nonneg (by omega)]; omega
        obtain ⟨j, hjn⟩ : ∃ j : Nat, k / 2 = j := ⟨_, rfl⟩
        have hj : (k : Int).tdiv 2 = j := by rw [Int.tdiv_eq_ediv_of_nonneg (by omega)]; omega
        have hj' := Lib.hid hjn
        have hj2 : 2 * (j : Int) ≤ k := by omega
        clear hjn
        have hkp : 0 < (k : Int) := by omega
        have HPA := Lib.hid (PA_yes HPI.out HMI.out hok)
        obtain ⟨pm, hpm⟩ : ∃ q, p.mul m = q := ⟨_, rfl⟩
        have HPI2 : Hid (pm.is = true) := Lib.hid (by rw [← hpm, Mat.is_mul HPI.out HMI.out, hok])
        rw [hpm] at HPA
        obtain ⟨hr1, hr2⟩ := HP.out.some (by rw [hne]; exact pbs_one_yes hok)
        rw [hpm] at hr1
        clear HP hok hpm
        have hk1 : k = 1 := by omega
        subst hk1
        go_wp2_with fail
        refine (prodAll_any [p, m] wr.heap.size 2 (by simp) _ _ HPA.out _ (Rd.alloc IX _) (Box.new _ _ _)).mono ?_
        rintro e w1 ⟨rfl, hb1⟩
        have M1 := Box.below (Box.alloc hM _) hb1
        have R1 := Box.below (Box.alloc hR _) hb1
        have P1 := Box.below (Box.alloc hP _) hb1
        have X1 : Idn w1 := Rd.below (Rd.alloc IX _) hb1
        have T1 : Below w.heap.size w w1 := own_trans (own_alloc hb _) hb1
        obtain ⟨_, _, _, _, _, _, _, _, _⟩ := M1.four
        obtain ⟨_, d0, d1, d2, d3, _, _, _, _⟩ := R1.four
        obtain ⟨_, _, _, _, _, _, _, _, _⟩ := P1.four
        have n1 : ¬ (w1.heap.size = w.heap.size) := Nat.ne_of_gt M1.1
        have n2 : ¬ (w1.heap.size = g4) := Nat.ne_of_gt R1.1
        have n3 : ¬ (w1.heap.size = g6) := Nat.ne_of_gt P1.1
        go_upto_region 6 with fail
        have M2 : Box ((((w1.setCell ⟨g6, 0, none⟩ (.int .i64 pm.a)).setCell ⟨g6, 1, none⟩ (.int .i64 pm.b)).setCell ⟨g6, 2, none⟩ (.int .i64 pm.c)).setCell ⟨g6, 3, none⟩ (.int .i64 pm.d)) w.heap.size m.cells := ((((M1.far (by dsimp only; omega) _).far (by dsimp only; omega) _).far (by dsimp only; omega) _).far (by dsimp only; omega) _)
        have R2 : Box ((((w1.setCell ⟨g6, 0, none⟩ (.int .i64 pm.a)).setCell ⟨g6, 1, none⟩ (.int .i64 pm.b)).setCell ⟨g6, 2, none⟩ (.int .i64 pm.c)).setCell ⟨g6, 3, none⟩ (.int .i64 pm.d)) g4 [.int .i64 0, .int .i64 0, .int .i64 0, .int .i64 0] := ((((R1.far (by dsimp only; omega) _).far (by dsimp only; omega) _).far (by dsimp only; omega) _).far (by dsimp only; omega) _)
        have P2 : Box ((((w1.setCell ⟨g6, 0, none⟩ (.int .i64 pm.a)).setCell ⟨g6, 1, none⟩ (.int .i64 pm.b)).setCell ⟨g6, 2, none⟩ (.int .i64 pm.c)).setCell ⟨g6, 3, none⟩ (.int .i64 pm.d)) g6 pm.cells := P1.put4 _ _ _ _
        have T2 : Below w.heap.size w ((((w1.setCell ⟨g6, 0, none⟩ (.int .i64 pm.a)).setCell ⟨g6, 1, none⟩ (.int .i64 pm.b)).setCell ⟨g6, 2, none⟩ (.int .i64 pm.c)).setCell ⟨g6, 3, none⟩ (.int .i64 pm.d)) := by repeat (first | with_reducible exact own_refl _ | with_reducible assumption | with_reducible apply own_alloc | with_reducible apply own_drewN | with_reducible apply own_drew | ((with_reducible refine own_setCell ?_ ?_ _); rotate_left; focus (first | (simp; done) | (simp; omega))) | (with_reducible (refine own_trans ?_ (by assumption))))
        clear M1 R1 P1 X1 n1 n2 n3 IX hM hR hP hb hb1 T1
        generalize ((((w1.setCell ⟨g6, 0, none⟩ (.int .i64 pm.a)).setCell ⟨g6, 1, none⟩ (.int .i64 pm.b)).setCell ⟨g6, 2, none⟩ (.int .i64 pm.c)).setCell ⟨g6, 3, none⟩ (.int .i64 pm.d)) = w2 at M2 R2 P2 T2 ⊢
        have X2 : Idn w2 := Rd.below hid T2
        obtain ⟨_, _, _, _, _, _, _, _, _⟩ := M2.four
        obtain ⟨_, d0, d1, d2, d3, _, _, _, _⟩ := R2.four
        obtain ⟨_, _, _, _, _, _, _, _, _⟩ := P2.four
        have n1 : ¬ (w2.heap.size = w.heap.size) := Nat.ne_of_gt M2.1
        have n2 : ¬ (w2.heap.size = g4) := Nat.ne_of_gt R2.1
        have n3 : ¬ (w2.heap.size = g6) := Nat.ne_of_gt P2.1
        go_wp2
        refine bodyPost_ret (v := .tuple #[(.agg #[.int .i64 pm.a, .int .i64 pm.b, .int .i64 pm.c, .int .i64 pm.d]), (.int .i64 0)]) (by simp [results, Tryd.results58, go_sem, d0, d1, d2, d3]) rfl ⟨?_, by repeat (first | with_reducible exact own_refl _ | with_reducible assumption | with_reducible apply own_alloc | with_reducible apply own_drewN | with_reducible apply own_drew | ((with_reducible refine own_setCell ?_ ?_ _); rotate_left; focus (first | (simp; done) | (simp; omega))) | (with_reducible (refine own_trans ?_ (by assumption))))⟩
        rw [hr1, hr2]
      rcases hsq : (m.mul m).ok with _ | _
      · skip
        have q1 : (k : Int).tmod 2 = 1 := by rw [Int.tmod_eq_emod_of_nonneg (by omega)]; omega
        obtain ⟨j, hjn⟩ : ∃ j : Nat, k / 2 = j := ⟨_, rfl⟩
        have hj : (k : Int).tdiv 2 = j := by rw [Int.tdiv_eq_ediv_of_nonneg (by omega)]; omega
        have hj' := Lib.hid hjn
        have hj2 : 2 * (j : Int) ≤ k := by omega
        clear hjn
        have hkp : 0 < (k : Int) := by omega
        have HPA := Lib.hid (PA_yes HPI.out HMI.out hok)
        obtain ⟨pm, hpm⟩ : ∃ q, p.mul m = q := ⟨_, rfl⟩
        have HPI2 : Hid (pm.is = true) := Lib.hid (by rw [← hpm, Mat.is_mul HPI.out HMI.out, hok])
        rw [hpm] at HPA
        obtain ⟨mm, hmm⟩ : ∃ q, m.mul m = q := ⟨_, rfl⟩
        have HSQ := Lib.hid (PA_no HMI.out HMI.out hsq)
        obtain ⟨hr1, hr2⟩ := HP.out.none (pbs_odd_sq (by omega) hne hok hsq)
        clear HP hok hpm hsq hmm
        have hne' : ((k : Int) == 1) = false := by simp; omega
        go_wp2_with fail
        refine (prodAll_any [p, m] wr.heap.size 2 (by simp) _ _ HPA.out _ (Rd.alloc IX _) (Box.new _ _ _)).mono ?_
        rintro e w1 ⟨rfl, hb1⟩
        have M1 := Box.below (Box.alloc hM _) hb1
        have R1 := Box.below (Box.alloc hR _) hb1
        have P1 := Box.below (Box.alloc hP _) hb1
        have X1 : Idn w1 := Rd.below (Rd.alloc IX _) hb1
        have T1 : Below w.heap.size w w1 := own_trans (own_alloc hb _) hb1
        obtain ⟨_, _, _, _, _, _, _, _, _⟩ := M1.four
        obtain ⟨_, d0, d1, d2, d3, _, _, _, _⟩ := R1.four
        obtain ⟨_, _, _, _, _, _, _, _, _⟩ := P1.four
        have n1 : ¬ (w1.heap.size = w.heap.size) := Nat.ne_of_gt M1.1
        have n2 : ¬ (w1.heap.size = g4) := Nat.ne_of_gt R1.1
        have n3 : ¬ (w1.heap.size = g6) := Nat.ne_of_gt P1.1
        go_upto_region 6 with fail
        have M2 : Box ((((w1.setCell ⟨g6, 0, none⟩ (.int .i64 pm.a)).setCell ⟨g6, 1, none⟩ (.int .i64 pm.b)).setCell ⟨g6, 2, none⟩ (.int .i64 pm.c)).setCell ⟨g6, 3, none⟩ (.int .i64 pm.d)) w.heap.size m.cells := ((((M1.far (by dsimp only; omega) _).far (by dsimp only; omega) _).far (by dsimp only; omega) _).far (by dsimp only; omega) _)
        have R2 : Box ((((w1.setCell ⟨g6, 0, none⟩ (.int .i64 pm.a)).setCell ⟨g6, 1, none⟩ (.int .i64 pm.b)).setCell ⟨g6, 2, none⟩ (.int .i64 pm.c)).setCell ⟨g6, 3, none⟩ (.int .i64 pm.d)) g4 [.int .i64 0, .int .i64 0, .int .i64 0, .int .i64 0] := ((((R1.far (by dsimp only; omega) _).far (by dsimp only; omega) _).far (by dsimp only; omega) _).far (by dsimp only; omega) _)
        have P2 : Box ((((w1.setCell ⟨g6, 0, none⟩ (.int .i64 pm.a)).setCell ⟨g6, 1, none⟩ (.int .i64 pm.b)).setCell ⟨g6, 2, none⟩ (.int .i64 pm.c)).setCell ⟨g6, 3, none⟩ (.int .i64 pm.d)) g6 pm.cells := P1.put4 _ _ _ _
        have T2 : Below w.heap.size w ((((w1.setCell ⟨g6, 0, none⟩ (.int .i64 pm.a)).setCell ⟨g6, 1, none⟩ (.int .i64 pm.b)).setCell ⟨g6, 2, none⟩ (.int .i64 pm.c)).setCell ⟨g6, 3, none⟩ (.int .i64 pm.d)) := by repeat (first | with_reducible exact own_refl _ | with_reducible assumption | with_reducible apply own_alloc | with_reducible apply own_drewN | with_reducible apply own_drew | ((with_reducible refine own_setCell ?_ ?_ _); rotate_left; focus (first | (simp; done) | (simp; omega))) | (with_reducible (refine own_trans ?_ (by assumption))))
        clear M1 R1 P1 X1 n1 n2 n3 IX hM hR hP hb hb1 T1
        generalize ((((w1.setCell ⟨g6, 0, none⟩ (.int .i64 pm.a)).setCell ⟨g6, 1, none⟩ (.int .i64 pm.b)).setCell ⟨g6, 2, none⟩ (.int .i64 pm.c)).setCell ⟨g6, 3, none⟩ (.int .i64 pm.d)) = w2 at M2 R2 P2 T2 ⊢
        have X2 : Idn w2 := Rd.below hid T2
        obtain ⟨_, _, _, _, _, _, _, _, _⟩ := M2.four
        obtain ⟨_, d0, d1, d2, d3, _, _, _, _⟩ := R2.four
        obtain ⟨_, _, _, _, _, _, _, _, _⟩ := P2.four
        have n1 : ¬ (w2.heap.size = w.heap.size) := Nat.ne_of_gt M2.1
        have n2 : ¬ (w2.heap.size = g4) := Nat.ne_of_gt R2.1
        have n3 : ¬ (w2.heap.size = g6) := Nat.ne_of_gt P2.1
        go_wp2_with fail
        refine (prodAll_any [m, m] w2.heap.size 2 (by simp) _ _ HSQ.out _ (Rd.alloc X2 _) (Box.new _ _ _)).mono ?_
        rintro e w3 ⟨rfl, hb3⟩
        have M3 := Box.below (Box.alloc M2 _) hb3
        have R3 := Box.below (Box.alloc R2 _) hb3
        have P3 := Box.below (Box.alloc P2 _) hb3
        have T3 : Below w.heap.size w w3 := own_trans (own_alloc T2 _) hb3
        obtain ⟨_, _, _, _, _, _, _, _, _⟩ := M3.four
        obtain ⟨_, d0, d1, d2, d3, _, _, _, _⟩ := R3.four
        obtain ⟨_, _, _, _, _, _, _, _, _⟩ := P3.four
        have n1 : ¬ (w3.heap.size = w.heap.size) := Nat.ne_of_gt M3.1
        have n2 : ¬ (w3.heap.size = g4) := Nat.ne_of_gt R3.1
        have n3 : ¬ (w3.heap.size = g6) := Nat.ne_of_gt P3.1
        go_upto_region 10 with fail
        have R2 : Box ((((w3.setCell ⟨w.heap.size, 0, none⟩ (.int .i64 Mat.zero.a)).setCell ⟨w.heap.size, 1, none⟩ (.int .i64 Mat.zero.b)).setCell ⟨w.heap.size, 2, none⟩ (.int .i64 Mat.zero.c)).setCell ⟨w.heap.size, 3, none⟩ (.int .i64 Mat.zero.d)) g4 [.int .i64 0, .int .i64 0, .int .i64 0, .int .i64 0] := ((((R3.far (by dsimp only; omega) _).far (by dsimp only; omega) _).far (by dsimp only; omega) _).far (by dsimp only; omega) _)
        have T2 : Below w.heap.size w ((((w3.setCell ⟨w.heap.size, 0, none⟩ (.int .i64 Mat.zero.a)).setCell ⟨w.heap.size, 1, none⟩ (.int .i64 Mat.zero.b)).setCell ⟨w.heap.size, 2, none⟩ (.int .i64 Mat.zero.c)).setCell ⟨w.heap.size, 3, none⟩ (.int .i64 Mat.zero.d)) := by repeat (first | with_reducible exact own_refl _ | with_reducible assumption | with_reducible apply own_alloc | with_reducible apply own_drewN | with_reducible apply own_drew | ((with_reducible refine own_setCell ?_ ?_ _); rotate_left; focus (first | (simp; done) | (simp; omega))) | (with_reducible (refine own_trans ?_ (by assumption))))
        clear M3 R3 P3 n1 n2 n3
        generalize ((((w3.setCell ⟨w.heap.size, 0, none⟩ (.int .i64 Mat.zero.a)).setCell ⟨w.heap.size, 1, none⟩ (.int .i64 Mat.zero.b)).setCell ⟨w.heap.size, 2, none⟩ (.int .i64 Mat.zero.c)).setCell ⟨w.heap.size, 3, none⟩ (.int .i64 Mat.zero.d)) = w4 at R2 T2 ⊢
        obtain ⟨_, d0, d1, d2, d3, _, _, _, _⟩ := R2.four
        go_wp2
        refine bodyPost_ret (v := .tuple #[(.agg #[.int .i64 0, .int .i64 0, .int .i64 0, .int .i64 0]), (.int .i64 3)]) (by simp [results, Tryd.results58, go_sem, d0, d1, d2, d3]) rfl ⟨?_, by repeat (first | with_reducible exact own_refl _ | with_reducible assumption | with_reducible apply own_alloc | with_reducible apply own_drewN | with_reducible apply own_drew | ((with_reducible refine own_setCell ?_ ?_ _); rotate_left; focus (first | (simp; done) | (simp; omega))) | (with_reducible (refine own_trans ?_ (by assumption))))⟩
        rw [hr1, hr2]
        rfl
      · skip
        have q1 : (k : Int).tmod 2 = 1 := by rw [Int.tmod_eq_emod_of_nonneg (by omega)]; omega
        obtain ⟨j, hjn⟩ : ∃ j : Nat, k / 2 = j := ⟨_, rfl⟩
        have hj : (k : Int).tdiv 2 = j := by rw [Int.tdiv_eq_ediv_of_nonneg (by omega)]; omega
        have hj' := Lib.hid hjn
        have hj2 : 2 * (j : Int) ≤ k := by omega
        clear hjn
        have hkp : 0 < (k : Int) := by omega
        have HPA := Lib.hid (PA_yes HPI.out HMI.out hok)
        obtain ⟨pm, hpm⟩ : ∃ q, p.mul m = q := ⟨_, rfl⟩
        have HPI2 : Hid (pm.is = true) := Lib.hid (by rw [← hpm, Mat.is_mul HPI.out HMI.out, hok])
        rw [hpm] at HPA
        obtain ⟨mm, hmm⟩ : ∃ q, m.mul m = q := ⟨_, rfl⟩
        have HSQ := Lib.hid (PA_yes HMI.out HMI.out hsq)
        rw [hmm] at HSQ
        have HMI2 : Hid (mm.is = true) := Lib.hid (by rw [← hmm, Mat.is_mul HMI.out HMI.out, hsq])
        have HN : Hid (PB pm mm (k / 2) r c) := Lib.hid (by have := HP.out.go (pbs_odd_go (by omega) hne hok hsq); rwa [hpm, hmm] at this)
        clear HP hok hpm hsq hmm
        have hne' : ((k : Int) == 1) = false := by simp; omega
        go_wp2_with fail
        refine (prodAll_any [p, m] wr.heap.size 2 (by simp) _ _ HPA.out _ (Rd.alloc IX _) (Box.new _ _ _)).mono ?_
        rintro e w1 ⟨rfl, hb1⟩
        have M1 := Box.below (Box.alloc hM _) hb1
        have R1 := Box.below (Box.alloc hR _) hb1
        have P1 := Box.below (Box.alloc hP _) hb1
        have X1 : Idn w1 := Rd.below (Rd.alloc IX _) hb1
        have T1 : Below w.heap.size w w1 := own_trans (own_alloc hb _) hb1
        obtain ⟨_, _, _, _, _, _, _, _, _⟩ := M1.four
        obtain ⟨_, d0, d1, d2, d3, _, _, _, _⟩ := R1.four
        obtain ⟨_, _, _, _, _, _, _, _, _⟩ := P1.four
        have n1 : ¬ (w1.heap.size = w.heap.size) := Nat.ne_of_gt M1.1
        have n2 : ¬ (w1.heap.size = g4) := Nat.ne_of_gt R1.1
        have n3 : ¬ (w1.heap.size = g6) := Nat.ne_of_gt P1.1
        go_upto_region 6 with fail
        have M2 : Box ((((w1.setCell ⟨g6, 0, none⟩ (.int .i64 pm.a)).setCell ⟨g6, 1, none⟩ (.int .i64 pm.b)).setCell ⟨g6, 2, none⟩ (.int .i64 pm.c)).setCell ⟨g6, 3, none⟩ (.int .i64 pm.d)) w.heap.size m.cells := ((((M1.far (by dsimp only; omega) _).far (by dsimp only; omega) _).far (by dsimp only; omega) _).far (by dsimp only; omega) _)
        have R2 : Box ((((w1.setCell ⟨g6, 0, none⟩ (.int .i64 pm.a)).setCell ⟨g6, 1, none⟩ (.int .i64 pm.b)).setCell ⟨g6, 2, none⟩ (.int .i64 pm.c)).setCell ⟨g6, 3, none⟩ (.int .i64 pm.d)) g4 [.int .i64 0, .int .i64 0, .int .i64 0, .int .i64 0] := ((((R1.far (by dsimp only; omega) _).far (by dsimp only; omega) _).far (by dsimp only; omega) _).far (by dsimp only; omega) _)
        have P2 : Box ((((w1.setCell ⟨g6, 0, none⟩ (.int .i64 pm.a)).setCell ⟨g6, 1, none⟩ (.int .i64 pm.b)).setCell ⟨g6, 2, none⟩ (.int .i64 pm.c)).setCell ⟨g6, 3, none⟩ (.int .i64 pm.d)) g6 pm.cells := P1.put4 _ _ _ _
        have T2 : Below w.heap.size w ((((w1.setCell ⟨g6, 0, none⟩ (.int .i64 pm.a)).setCell ⟨g6, 1, none⟩ (.int .i64 pm.b)).setCell ⟨g6, 2, none⟩ (.int .i64 pm.c)).setCell ⟨g6, 3, none⟩ (.int .i64 pm.d)) := by repeat (first | with_reducible exact own_refl _ | with_reducible assumption | with_reducible apply own_alloc | with_reducible apply own_drewN | with_reducible apply own_drew | ((with_reducible refine own_setCell ?_ ?_ _); rotate_left; focus (first | (simp; done) | (simp; omega))) | (with_reducible (refine own_trans ?_ (by assumption))))
        clear M1 R1 P1 X1 n1 n2 n3 IX hM hR hP hb hb1 T1
        generalize ((((w1.setCell ⟨g6, 0, none⟩ (.int .i64 pm.a)).setCell ⟨g6, 1, none⟩ (.int .i64 pm.b)).setCell ⟨g6, 2, none⟩ (.int .i64 pm.c)).setCell ⟨g6, 3, none⟩ (.int .i64 pm.d)) = w2 at M2 R2 P2 T2 ⊢
        have X2 : Idn w2 := Rd.below hid T2
        obtain ⟨_, _, _, _, _, _, _, _, _⟩ := M2.four
        obtain ⟨_, d0, d1, d2, d3, _, _, _, _⟩ := R2.four
        obtain ⟨_, _, _, _, _, _, _, _, _⟩ := P2.four
        have n1 : ¬ (w2.heap.size = w.heap.size) := Nat.ne_of_gt M2.1
        have n2 : ¬ (w2.heap.size = g4) := Nat.ne_of_gt R2.1
        have n3 : ¬ (w2.heap.size = g6) := Nat.ne_of_gt P2.1
        go_wp2_with fail
        refine (prodAll_any [m, m] w2.heap.size 2 (by simp) _ _ HSQ.out _ (Rd.alloc X2 _) (Box.new _ _ _)).mono ?_
        rintro e w3 ⟨rfl, hb3⟩
        have M3 := Box.below (Box.alloc M2 _) hb3
        have R3 := Box.below (Box.alloc R2 _) hb3
        have P3 := Box.below (Box.alloc P2 _) hb3
        have T3 : Below w.heap.size w w3 := own_trans (own_alloc T2 _) hb3
        obtain ⟨_, _, _, _, _, _, _, _, _⟩ := M3.four
        obtain ⟨_, d0, d1, d2, d3, _, _, _, _⟩ := R3.four
        obtain ⟨_, _, _, _, _, _, _, _, _⟩ := P3.four
        have n1 : ¬ (w3.heap.size = w.heap.size) := Nat.ne_of_gt M3.1
        have n2 : ¬ (w3.heap.size = g4) := Nat.ne_of_gt R3.1
        have n3 : ¬ (w3.heap.size = g6) := Nat.ne_of_gt P3.1
        go_wp2
        go_roundw
        case rel => exact ⟨j, pm, mm, by go_num, by omega, by rw [← hj'.out]; exact HN, HPI2, HMI2, by repeat (first | with_reducible exact own_refl _ | with_reducible assumption | with_reducible apply own_alloc | with_reducible apply own_drewN | with_reducible apply own_drew | ((with_reducible refine own_setCell ?_ ?_ _); rotate_left; focus (first | (simp; done) | (simp; omega))) | (with_reducible (refine own_trans ?_ (by assumption)))), M3.put4 _ _ _ _, ((((R3.far (by dsimp only; omega) _).far (by dsimp only; omega) _).far (by dsimp only; omega) _).far (by dsimp only; omega) _), ((((P3.far (by dsimp only; omega) _).far (by dsimp only; omega) _).far (by dsimp only; omega) _).far (by dsimp only; omega) _)⟩
        case measure => simp [intOf]; omega
    · rcases hsq : (m.mul m).ok with _ | _
      · skip
        have q1 : (k : Int).tmod 2 = 0 := by rw [Int.tmod_eq_emod_of_nonneg (by omega)]; omega
        obtain ⟨j, hjn⟩ : ∃ j : Nat, k / 2 = j := ⟨_, rfl⟩
        have hj : (k : Int).tdiv 2 = j := by rw [Int.tdiv_eq_ediv_of_nonneg (by omega)]; omega
        have hj' := Lib.hid hjn
        have hj2 : 2 * (j : Int) ≤ k := by omega
        clear hjn
        have hkp : 0 < (k : Int) := by omega
        obtain ⟨mm, hmm⟩ : ∃ q, m.mul m = q := ⟨_, rfl⟩
        have HSQ := Lib.hid (PA_no HMI.out HMI.out hsq)
        obtain ⟨hr1, hr2⟩ := HP.out.none (pbs_even_sq (by omega) (by omega) hsq)
        clear HP hsq hmm
        have hne' : ((k : Int) == 1) = false := by simp; omega
        go_wp2_with fail
        refine (prodAll_any [m, m] wr.heap.size 2 (by simp) _ _ HSQ.out _ (Rd.alloc IX _) (Box.new _ _ _)).mono ?_
        rintro e w3 ⟨rfl, hb3⟩
        have M3 := Box.below (Box.alloc hM _) hb3
        have R3 := Box.below (Box.alloc hR _) hb3
        have P3 := Box.below (Box.alloc hP _) hb3
        have T3 : Below w.heap.size w w3 := own_trans (own_alloc hb _) hb3
        obtain ⟨_, _, _, _, _, _, _, _, _⟩ := M3.four
        obtain ⟨_, d0, d1, d2, d3, _, _, _, _⟩ := R3.four
        obtain ⟨_, _, _, _, _, _, _, _, _⟩ := P3.four
        have n1 : ¬ (w3.heap.size = w.heap.size) := Nat.ne_of_gt M3.1
        have n2 : ¬ (w3.heap.size = g4) := Nat.ne_of_gt R3.1
        have n3 : ¬ (w3.heap.size = g6) := Nat.ne_of_gt P3.1
        go_upto_region 10 with fail
        have R2 : Box ((((w3.setCell ⟨w.heap.size, 0, none⟩ (.int .i64 Mat.zero.a)).setCell ⟨w.heap.size, 1, none⟩ (.int .i64 Mat.zero.b)).setCell ⟨w.heap.size, 2, none⟩ (.int .i64 Mat.zero.c)).setCell ⟨w.heap.size, 3, none⟩ (.int .i64 Mat.zero.d)) g4 [.int .i64 0, .int .i64 0, .int .i64 0, .int .i64 0] := ((((R3.far (by dsimp only; omega) _).far (by dsimp only; omega) _).far (by dsimp only; omega) _).far (by dsimp only; omega) _)
        have T2 : Below w.heap.size w ((((w3.setCell ⟨w.heap.size, 0, none⟩ (.int .i64 Mat.zero.a)).setCell ⟨w.heap.size, 1, none⟩ (.int .i64 Mat.zero.b)).setCell ⟨w.heap.size, 2, none⟩ (.int .i64 Mat.zero.c)).setCell ⟨w.heap.size, 3, none⟩ (.int .i64 Mat.zero.d)) := by repeat (first | with_reducible exact own_refl _ | with_reducible assumption | with_reducible apply own_alloc | with_reducible apply own_drewN | with_reducible apply own_drew | ((with_reducible refine own_setCell ?_ ?_ _); rotate_left; focus (first | (simp; done) | (simp; omega))) | (with_reducible (refine own_trans ?_ (by assumption))))
        clear M3 R3 P3 n1 n2 n3
        generalize ((((w3.setCell ⟨w.heap.size, 0, none⟩ (.int .i64 Mat.zero.a)).setCell ⟨w.heap.size, 1, none⟩ (.int .i64 Mat.zero.b)).setCell ⟨w.heap.size, 2, none⟩ (.int .i64 Mat.zero.c)).setCell ⟨w.heap.size, 3, none⟩ (.int .i64 Mat.zero.d)) = w4 at R2 T2 ⊢
        obtain ⟨_, d0, d1, d2, d3, _, _, _, _⟩ := R2.four
        go_wp2
        refine bodyPost_ret (v := .tuple #[(.agg #[.int .i64 0, .int .i64 0, .int .i64 0, .int .i64 0]), (.int .i64 3)]) (by simp [results, Tryd.results58, go_sem, d0, d1, d2, d3]) rfl ⟨?_, by repeat (first | with_reducible exact own_refl _ | with_reducible assumption | with_reducible apply own_alloc | with_reducible apply own_drewN | with_reducible apply own_drew | ((with_reducible refine own_setCell ?_ ?_ _); rotate_left; focus (first | (simp; done) | (simp; omega))) | (with_reducible (refine own_trans ?_ (by assumption))))⟩
        rw [hr1, hr2]
        rfl
      · skip
        have q1 : (k : Int).tmod 2 = 0 := by rw [Int.tmod_eq_emod_of_nonneg (by omega)]; omega
        obtain ⟨j, hjn⟩ : ∃ j : Nat, k / 2 = j := ⟨_, rfl⟩
        have hj : (k : Int).tdiv 2 = j := by rw [Int.tdiv_eq_ediv_of_nonneg (by omega)]; omega
        have hj' := Lib.hid hjn
        have hj2 : 2 * (j : Int) ≤ k := by omega
        clear hjn
        have hkp : 0 < (k : Int) := by omega
        obtain ⟨mm, hmm⟩ : ∃ q, m.mul m = q := ⟨_, rfl⟩
        have HSQ := Lib.hid (PA_yes HMI.out HMI.out hsq)
        rw [hmm] at HSQ
        have HMI2 : Hid (mm.is = true) := Lib.hid (by rw [← hmm, Mat.is_mul HMI.out HMI.out, hsq])
        have HN : Hid (PB p mm (k / 2) r c) := Lib.hid (by have := HP.out.go (pbs_even_go (by omega) (by omega) hsq); rwa [hmm] at this)
        clear HP hsq hmm
        have hne' : ((k : Int) == 1) = false := by simp; omega
        go_wp2_with fail
        refine (prodAll_any [m, m] wr.heap.size 2 (by simp) _ _ HSQ.out _ (Rd.alloc IX _) (Box.new _ _ _)).mono ?_
        rintro e w3 ⟨rfl, hb3⟩
        have M3 := Box.below (Box.alloc hM _) hb3
        have R3 := Box.below (Box.alloc hR _) hb3
        have P3 := Box.below (Box.alloc hP _) hb3
        have T3 : Below w.heap.size w w3 := own_trans (own_alloc hb _) hb3
        obtain ⟨_, _, _, _, _, _, _, _, _⟩ := M3.four
        obtain ⟨_, d0, d1, d2, d3, _, _, _, _⟩ := R3.four
        obtain ⟨_, _, _, _, _, _, _, _, _⟩ := P3.four
        have n1 : ¬ (w3.heap.size = w.heap.size) := Nat.ne_of_gt M3.1
        have n2 : ¬ (w3.heap.size = g4) := Nat.ne_of_gt R3.1
        have n3 : ¬ (w3.heap.size = g6) := Nat.ne_of_gt P3.1
        go_wp2
        go_roundw
        case rel => exact ⟨j, p, mm, by go_num, by omega, by rw [← hj'.out]; exact HN, HPI, HMI2, by repeat (first | with_reducible exact own_refl _ | with_reducible assumption | with_reducible apply own_alloc | with_reducible apply own_drewN | with_reducible apply own_drew | ((with_reducible refine own_setCell ?_ ?_ _); rotate_left; focus (first | (simp; done) | (simp; omega))) | (with_reducible (refine own_trans ?_ (by assumption)))), M3.put4 _ _ _ _, ((((R3.far (by dsimp only; omega) _).far (by dsimp only; omega) _).far (by dsimp only; omega) _).far (by dsimp only; omega) _), ((((P3.far (by dsimp only; omega) _).far (by dsimp only; omega) _).far (by dsimp only; omega) _).far (by dsimp only; omega) _)⟩
        case measure => simp [intOf]; omega
end Go.Proofs.YtempjimoiipkmaaDoor
