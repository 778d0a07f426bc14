/- spec.l01Power: contract. -/
import Derived.Test.YtempjimoiipkmaaDoorPow
import Derived.Test.YtempjimoiipkmaaDoorTM
import Derived.Test.YtempjimoiipkmaaDoorSKind
namespace Go.Proofs.YtempjimoiipkmaaDoor
open Go.ChangeShapes Go.WideShapes Go.ChangeAt Go.RowKit

theorem l01Kind_is (k : Int) (a b c d : Int) (ea : Ent a) (ed : Ent d) (hk : kind a b c d = k) (w : World) :
    Calls Tryd.prog 59 #[(.agg #[.int .i64 a, .int .i64 b, .int .i64 c, .int .i64 d])] w fun e w' => e = .returned (.int .i64 k) ∧ Below w.heap.size w w' := hk ▸ l01Kind_any a b c d ea ed w
theorem TM_yes {p m q : Mat} (hok : (p.mul m).ok = true) (hq : p.mul m = q) : TM p m q true := .inl ⟨hok, hq.symm, rfl⟩
theorem TM_no {p m : Mat} (hok : (p.mul m).ok = false) : TM p m Mat.zero false := .inr ⟨hok, rfl, rfl⟩

set_option maxHeartbeats 4000000 in
theorem specPow_small (m0 : Mat) (k0 : Nat) (hk0 : k0 ≤ 1000000) (hm0 : m0.is = true) (kk : Int) (hkk : kk < 2) (hkind : kind m0.a m0.b m0.c m0.d = kk) (hall : ∀ n, (Mat.pow m0 n).ok = true) (w : World) :
    Calls Tryd.prog 56 #[(.agg #[.int .i64 m0.a, .int .i64 m0.b, .int .i64 m0.c, .int .i64 m0.d]), (.int .i64 k0)] w fun e w' => e = .returned (.tuple #[(.agg #[.int .i64 ((Mat.pow m0 (k0 % 12)).a), .int .i64 ((Mat.pow m0 (k0 % 12)).b), .int .i64 ((Mat.pow m0 (k0 % 12)).c), .int .i64 ((Mat.pow m0 (k0 % 12)).d)]), .bool true]) ∧ Below w.heap.size w w' := by
  have HALL := Lib.hid hall
  obtain ⟨N, hN⟩ : ∃ N, k0 % 12 = N := ⟨_, rfl⟩
  have hr : (k0 : Int).tmod 12 = N := by rw [Int.tmod_eq_emod_of_nonneg (by omega)]; omega
  have hN12 : N < 12 := by omega
  rw [hN]
  clear hall hN
  obtain ⟨ea, eb, ec, ed, _⟩ := Mat.is_ent hm0
  have HM0 := Lib.hid hm0
  have HK := Lib.hid hkind
  clear hm0 hkind
  go_enter Tryd.func56, Tryd.ntmps56
  go_wp2_with fail
  refine (l01Kind_is kk _ _ _ _ ea ed HK.out _).mono ?_
  rintro e w1 ⟨rfl, hb1⟩
  have M1 : Box w1 w.heap.size m0.cells := Box.below (Box.alloc (Box.alloc (Box.new _ _ _) _) _) hb1
  have R1 : Box w1 (w.heap.size + 1) [.int .i64 0, .int .i64 0, .int .i64 0, .int .i64 0] := Box.below (Box.alloc (Box.newAt (by simp) _ _) _) hb1
  have P1 : Box w1 (w.heap.size + 1 + 1) Mat.one.cells := Box.below (Box.newAt (by simp) _ _) hb1
  have T1 : Below w.heap.size w w1 := by repeat (first | with_reducible exact own_refl _ | with_reducible assumption | with_reducible apply own_alloc | with_reducible apply own_drewN | with_reducible apply own_drew | ((with_reducible refine own_setCell ?_ ?_ _); rotate_left; focus (first | (simp; done) | (simp; omega))) | (with_reducible (refine own_trans ?_ (by assumption))))
  clear hb1
  obtain ⟨g4, hg4⟩ : ∃ g, w.heap.size + 1 = g := ⟨_, rfl⟩
  obtain ⟨g6, hg6⟩ : ∃ g, g4 + 1 = g := ⟨_, rfl⟩
  have e1 : ¬ (g4 = w.heap.size) := by omega
  have e2 : ¬ (g6 = w.heap.size) := by omega
  have e3 : ¬ (g6 = g4) := by omega
  have e1' : ¬ (w.heap.size = g4) := by omega
  have e2' : ¬ (w.heap.size = g6) := by omega
  have e3' : ¬ (g4 = g6) := by omega
  have l4 : w.heap.size ≤ g4 := by omega
  have l6 : w.heap.size ≤ g6 := by omega
  rw [hg4] at R1 P1
  rw [hg6] at P1
  simp only [hg4, hg6]
  clear hg4 hg6
  obtain ⟨_, _, _, _, _, _, _, _, _⟩ := M1.four
  obtain ⟨_, _, _, _, _, _, _, _, _⟩ := R1.four
  obtain ⟨_, _, _, _, _, _, _, _, _⟩ := P1.four
  have MM := M1
  clear M1
  go_wp2
  go_loopw [1] (fun s wr => ∃ (j : Nat) (p : Mat), s = (.int .i64 j) ∧ j ≤ N ∧ Hid (p = Mat.pow m0 (N - j)) ∧ Below w.heap.size w wr ∧ Box wr w.heap.size m0.cells ∧ Box wr g4 [.int .i64 0, .int .i64 0, .int .i64 0, .int .i64 0] ∧ Box wr g6 p.cells) (fun s _ => (intOf s).toNat)
  case atStart => exact ⟨N, Mat.one, rfl, Nat.le_refl _, Lib.hid (by simp [Mat.pow]), T1, MM, R1, P1⟩
  case round =>
    obtain ⟨j, p, rfl, hj, HP, T, M, R, P⟩ := hrel
    obtain ⟨_, _, _, _, _, _, _, _, _⟩ := M.four
    obtain ⟨_, d0, d1, d2, d3, _, _, _, _⟩ := R.four
    obtain ⟨_, _, _, _, _, _, _, _, _⟩ := P.four
    by_cases hj0 : j = 0
    · subst hj0
      have HE : Hid (p = Mat.pow m0 N) := HP
      clear HP
      go_wp2
      refine bodyPost_ret (v := .tuple #[(.agg #[.int .i64 p.a, .int .i64 p.b, .int .i64 p.c, .int .i64 p.d]), .bool true]) (by simp [results, Tryd.results56, go_sem, d0, d1, d2, d3]) rfl ⟨?_, by repeat (first | with_reducible exact own_refl _ | with_reducible assumption | with_reducible apply own_alloc | with_reducible apply own_drewN | with_reducible apply own_drew | ((with_reducible refine own_setCell ?_ ?_ _); rotate_left; focus (first | (simp; done) | (simp; omega))) | (with_reducible (refine own_trans ?_ (by assumption))))⟩
      rw [HE.out]
    · have hj1 : 0 < (j : Int) := by omega
      have HPE : p.ok = true := by rw [HP.out]; exact HALL.out _
      obtain ⟨pa, pb, pc, pd⟩ := Mat.ok_ent HPE
      obtain ⟨q, hq⟩ : ∃ q, p.mul m0 = q := ⟨_, rfl⟩
      have hs : q = Mat.pow m0 (N - (j - 1)) := by rw [show N - (j - 1) = (N - j) + 1 by omega, Mat.pow, ← hq, HP.out]
      have HQ := Lib.hid (TM_yes (by rw [hq, hs]; exact HALL.out _) hq)
      have HS := Lib.hid hs
      clear HPE hq hs
      go_wp2_with fail
      refine (times_is p m0 q true pa pb pc pd ea eb ec ed HQ.out _).mono ?_
      rintro e w2 ⟨rfl, hb2⟩
      have M2 := M.below hb2
      have R2 := R.below hb2
      have P2 := P.below hb2
      obtain ⟨_, _, _, _, _, _, _, _, _⟩ := P2.four
      go_wp2
      go_roundw
      case rel => exact ⟨j - 1, q, by go_num, by omega, HS, by repeat (first | with_reducible exact own_refl _ | with_reducible assumption | with_reducible apply own_alloc | with_reducible apply own_drewN | with_reducible apply own_drew | ((with_reducible refine own_setCell ?_ ?_ _); rotate_left; focus (first | (simp; done) | (simp; omega))) | (with_reducible (refine own_trans ?_ (by assumption)))), ((((M2.far (by dsimp only; omega) _).far (by dsimp only; omega) _).far (by dsimp only; omega) _).far (by dsimp only; omega) _), ((((R2.far (by dsimp only; omega) _).far (by dsimp only; omega) _).far (by dsimp only; omega) _).far (by dsimp only; omega) _), P2.put4 _ _ _ _⟩
      case measure => simp [intOf]; omega

/-- What spec.l01Power gives back: the power, or that it is too great. -/
def PS (m : Mat) (k : Nat) (x : Mat) (b : Bool) : Prop := (pbs Mat.one m k = some x ∧ b = true) ∨ (pbs Mat.one m k = none ∧ b = false)

/-- What a round of the second loop keeps. -/
def PI (m0 : Mat) (k0 : Nat) (b : Bool) (p m : Mat) (k : Nat) : Prop := (b = true ∧ pbs Mat.one m0 k0 = pbs p m k ∧ p.is = true ∧ m.is = true) ∨ (b = false ∧ pbs Mat.one m0 k0 = none)
set_option maxHeartbeats 8000000 in
theorem specPow_big (m0 : Mat) (k0 : Nat) (hk0 : k0 ≤ 1000000) (hm0 : m0.is = true) (kk : Int) (hkk : 2 ≤ kk) (hkind : kind m0.a m0.b m0.c m0.d = kk) (w : World) :
    Calls Tryd.prog 56 #[(.agg #[.int .i64 m0.a, .int .i64 m0.b, .int .i64 m0.c, .int .i64 m0.d]), (.int .i64 k0)] w fun e w' => ∃ (x : Mat) (b : Bool), e = .returned (.tuple #[(.agg #[.int .i64 x.a, .int .i64 x.b, .int .i64 x.c, .int .i64 x.d]), .bool b]) ∧ PS m0 k0 x b ∧ Below w.heap.size w w' := by
  obtain ⟨ea, eb, ec, ed, _⟩ := Mat.is_ent hm0
  have HM0 := Lib.hid hm0
  have HK := Lib.hid hkind
  clear hm0 hkind
  go_enter Tryd.func56, Tryd.ntmps56
  go_wp2_with fail
  refine (l01Kind_is kk _ _ _ _ ea ed HK.out _).mono ?_
  rintro e w1 ⟨rfl, hb1⟩
  have M1 : Box w1 w.heap.size m0.cells := Box.below (Box.alloc (Box.alloc (Box.new _ _ _) _) _) hb1
  have R1 : Box w1 (w.heap.size + 1) [.int .i64 0, .int .i64 0, .int .i64 0, .int .i64 0] := Box.below (Box.alloc (Box.newAt (by simp) _ _) _) hb1
  have P1 : Box w1 (w.heap.size + 1 + 1) Mat.one.cells := Box.below (Box.newAt (by simp) _ _) hb1
  have T1 : Below w.heap.size w w1 := by repeat (first | with_reducible exact own_refl _ | with_reducible assumption | with_reducible apply own_alloc | with_reducible apply own_drewN | with_reducible apply own_drew | ((with_reducible refine own_setCell ?_ ?_ _); rotate_left; focus (first | (simp; done) | (simp; omega))) | (with_reducible (refine own_trans ?_ (by assumption))))
  clear hb1
  obtain ⟨g4, hg4⟩ : ∃ g, w.heap.size + 1 = g := ⟨_, rfl⟩
  obtain ⟨g6, hg6⟩ : ∃ g, g4 + 1 = g := ⟨_, rfl⟩
  have e1 : ¬ (g4 = w.heap.size) := by omega
  have e2 : ¬ (g6 = w.heap.size) := by omega
  have e3 : ¬ (g6 = g4) := by omega
  have e1' : ¬ (w.heap.size = g4) := by omega
  have e2' : ¬ (w.heap.size = g6) := by omega
  have e3' : ¬ (g4 = g6) := by omega
  have l4 : w.heap.size ≤ g4 := by omega
  have l6 : w.heap.size ≤ g6 := by omega
  rw [hg4] at R1 P1
  rw [hg6] at P1
  simp only [hg4, hg6]
  clear hg4 hg6
  obtain ⟨_, _, _, _, _, _, _, _, _⟩ := M1.four
  obtain ⟨_, _, _, _, _, _, _, _, _⟩ := R1.four
  obtain ⟨_, _, _, _, _, _, _, _, _⟩ := P1.four
  go_wp2
  obtain ⟨g9, hg9⟩ : ∃ g, w1.heap.size = g := ⟨_, rfl⟩
  have l9 : g6 < g9 := hg9 ▸ P1.1
  have l9' : g4 < g9 := hg9 ▸ R1.1
  have l9'' : w.heap.size ≤ g9 := hg9 ▸ T1.size
  have B9 := Box.newAt hg9 m0.cells 26
  go_loopw [1, 8, 9] (fun s ok pt wr => ∃ (k : Nat) (p m : Mat) (b : Bool) (g : Nat), s = (.int .i64 k) ∧ ok = .bool b ∧ pt = .pointer (some ⟨g, 0, none⟩) ∧ k ≤ 1000000 ∧ g6 < g ∧ g4 < g ∧ w.heap.size ≤ g ∧
    PI m0 k0 b p m k ∧ Below w.heap.size w wr ∧ Box wr g4 [.int .i64 0, .int .i64 0, .int .i64 0, .int .i64 0] ∧ Box wr g6 p.cells ∧ Box wr g m.cells) (fun s _ _ _ => (intOf s).toNat)
  case atStart => exact ⟨k0, Mat.one, m0, true, g9, rfl, rfl, by simp only [hg9], hk0, l9, l9', l9'', (.inl ⟨rfl, rfl, Mat.one_is, HM0.out⟩), by repeat (first | with_reducible exact own_refl _ | with_reducible assumption | with_reducible apply own_alloc | with_reducible apply own_drewN | with_reducible apply own_drew | ((with_reducible refine own_setCell ?_ ?_ _); rotate_left; focus (first | (simp; done) | (simp; omega))) | (with_reducible (refine own_trans ?_ (by assumption)))), R1.alloc _, P1.alloc _, B9⟩
  case round =>
    clear hg9 l9 l9' l9'' B9 M1 R1 P1 T1
    obtain ⟨k, p, m, b, g, rfl, rfl, rfl, hk, gl6, gl4, gl, HI, T, R, P, M⟩ := hrel
    have f1 : ¬ (g = g6) := by omega
    have f2 : ¬ (g = g4) := by omega
    have f1' : ¬ (g6 = g) := by omega
    have f2' : ¬ (g4 = g) := by omega
    obtain ⟨_, _, _, _, _, _, _, _, _⟩ := M.four
    obtain ⟨_, d0, d1, d2, d3, _, _, _, _⟩ := R.four
    obtain ⟨_, _, _, _, _, _, _, _, _⟩ := P.four
    rcases HI with ⟨hb, hpb, hpi, hmi⟩ | ⟨hb, hpb⟩
    case inr =>
      subst hb
      have HPB := Lib.hid hpb
      clear hpb
      by_cases hk0' : k = 0
      · subst hk0'
        go_wp2
        exact bodyPost_ret (v := .tuple #[(.agg #[.int .i64 p.a, .int .i64 p.b, .int .i64 p.c, .int .i64 p.d]), .bool false]) (by simp [results, Tryd.results56, go_sem, d0, d1, d2, d3]) rfl ⟨p, false, rfl, .inr ⟨HPB.out, rfl⟩, by repeat (first | with_reducible exact own_refl _ | with_reducible assumption | with_reducible apply own_alloc | with_reducible apply own_drewN | with_reducible apply own_drew | ((with_reducible refine own_setCell ?_ ?_ _); rotate_left; focus (first | (simp; done) | (simp; omega))) | (with_reducible (refine own_trans ?_ (by assumption))))⟩
      · have hkp : 0 < (k : Int) := by omega
        go_wp2
        exact bodyPost_ret (v := .tuple #[(.agg #[.int .i64 p.a, .int .i64 p.b, .int .i64 p.c, .int .i64 p.d]), .bool false]) (by simp [results, Tryd.results56, go_sem, d0, d1, d2, d3]) rfl ⟨p, false, rfl, .inr ⟨HPB.out, rfl⟩, by repeat (first | with_reducible exact own_refl _ | with_reducible assumption | with_reducible apply own_alloc | with_reducible apply own_drewN | with_reducible apply own_drew | ((with_reducible refine own_setCell ?_ ?_ _); rotate_left; focus (first | (simp; done) | (simp; omega))) | (with_reducible (refine own_trans ?_ (by assumption))))⟩
    case inl =>
    subst hb
    obtain ⟨pa, pb, pc, pd, _⟩ := Mat.is_ent hpi
    obtain ⟨ma, mb, mc, md, _⟩ := Mat.is_ent hmi
    have HPB := Lib.hid hpb
    have HPI := Lib.hid hpi
    have HMI := Lib.hid hmi
    clear hpb hpi hmi
    by_cases hk0' : k = 0
    · subst hk0'
      go_wp2
      exact bodyPost_ret (v := .tuple #[(.agg #[.int .i64 p.a, .int .i64 p.b, .int .i64 p.c, .int .i64 p.d]), .bool true]) (by simp [results, Tryd.results56, go_sem, d0, d1, d2, d3]) rfl ⟨p, true, rfl, .inl ⟨by rw [HPB.out, pbs_zero], rfl⟩, by repeat (first | with_reducible exact own_refl _ | with_reducible assumption | with_reducible apply own_alloc | with_reducible apply own_drewN | with_reducible apply own_drew | ((with_reducible refine own_setCell ?_ ?_ _); rotate_left; focus (first | (simp; done) | (simp; omega))) | (with_reducible (refine own_trans ?_ (by assumption))))⟩
    rcases (show k % 2 = 1 ∨ k % 2 = 0 by omega) with hpar | hpar
    · rcases hok : (p.mul m).ok with _ | _
      · skip
        have q1 : (k : Int).tmod 2 = 1 := by rw [Int.tmod_eq_emod_of_nonneg (by omega)]; omega
        obtain ⟨j, hjn⟩ : ∃ j : Nat, k / 2 = j := ⟨_, rfl⟩
        have hj : (k : Int).tdiv 2 = j := by rw [Int.tdiv_eq_ediv_of_nonneg (by omega)]; omega
        have hj' := Lib.hid hjn
        have hj2 : 2 * (j : Int) ≤ k := by omega
        clear hjn
        have hkp : 0 < (k : Int) := by omega
        have HQ := Lib.hid (TM_no hok)
        have HN : PI m0 k0 false Mat.zero m j := .inr ⟨rfl, by rw [HPB.out]; exact pbs_odd_no (by omega) hok⟩
        clear HPB hok
        go_wp2_with fail
        refine (times_is p m Mat.zero false pa pb pc pd ma mb mc md HQ.out _).mono ?_
        rintro e w2 ⟨rfl, hb2⟩
        have M2 := M.below hb2
        have R2 := R.below hb2
        have P2 := P.below hb2
        have T2 := own_trans T hb2
        obtain ⟨_, _, _, _, _, _, _, _, _⟩ := P2.four
        go_upto_region 15 with fail
        have M3 : Box ((((w2.setCell ⟨g6, 0, none⟩ (.int .i64 Mat.zero.a)).setCell ⟨g6, 1, none⟩ (.int .i64 Mat.zero.b)).setCell ⟨g6, 2, none⟩ (.int .i64 Mat.zero.c)).setCell ⟨g6, 3, none⟩ (.int .i64 Mat.zero.d)) g m.cells := ((((M2.far (by dsimp only; omega) _).far (by dsimp only; omega) _).far (by dsimp only; omega) _).far (by dsimp only; omega) _)
        have R3 : Box ((((w2.setCell ⟨g6, 0, none⟩ (.int .i64 Mat.zero.a)).setCell ⟨g6, 1, none⟩ (.int .i64 Mat.zero.b)).setCell ⟨g6, 2, none⟩ (.int .i64 Mat.zero.c)).setCell ⟨g6, 3, none⟩ (.int .i64 Mat.zero.d)) g4 [.int .i64 0, .int .i64 0, .int .i64 0, .int .i64 0] := ((((R2.far (by dsimp only; omega) _).far (by dsimp only; omega) _).far (by dsimp only; omega) _).far (by dsimp only; omega) _)
        have P3 : Box ((((w2.setCell ⟨g6, 0, none⟩ (.int .i64 Mat.zero.a)).setCell ⟨g6, 1, none⟩ (.int .i64 Mat.zero.b)).setCell ⟨g6, 2, none⟩ (.int .i64 Mat.zero.c)).setCell ⟨g6, 3, none⟩ (.int .i64 Mat.zero.d)) g6 Mat.zero.cells := P2.put4 _ _ _ _
        have T3 : Below w.heap.size w ((((w2.setCell ⟨g6, 0, none⟩ (.int .i64 Mat.zero.a)).setCell ⟨g6, 1, none⟩ (.int .i64 Mat.zero.b)).setCell ⟨g6, 2, none⟩ (.int .i64 Mat.zero.c)).setCell ⟨g6, 3, none⟩ (.int .i64 Mat.zero.d)) := by repeat (first | with_reducible exact own_refl _ | with_reducible assumption | with_reducible apply own_alloc | with_reducible apply own_drewN | with_reducible apply own_drew | ((with_reducible refine own_setCell ?_ ?_ _); rotate_left; focus (first | (simp; done) | (simp; omega))) | (with_reducible (refine own_trans ?_ (by assumption))))
        clear M R P T M2 R2 P2 T2 hb2
        generalize ((((w2.setCell ⟨g6, 0, none⟩ (.int .i64 Mat.zero.a)).setCell ⟨g6, 1, none⟩ (.int .i64 Mat.zero.b)).setCell ⟨g6, 2, none⟩ (.int .i64 Mat.zero.c)).setCell ⟨g6, 3, none⟩ (.int .i64 Mat.zero.d)) = w3 at M3 R3 P3 T3 ⊢
        obtain ⟨_, _, _, _, _, _, _, _, _⟩ := M3.four
        obtain ⟨_, _, _, _, _, _, _, _, _⟩ := R3.four
        obtain ⟨_, _, _, _, _, _, _, _, _⟩ := P3.four
        go_wp2
        all_goals
          go_roundw
          case rel => exact ⟨j, Mat.zero, m, false, w3.heap.size, by go_num, rfl, rfl, by omega, P3.1, R3.1, T3.size, HN, by repeat (first | with_reducible exact own_refl _ | with_reducible assumption | with_reducible apply own_alloc | with_reducible apply own_drewN | with_reducible apply own_drew | ((with_reducible refine own_setCell ?_ ?_ _); rotate_left; focus (first | (simp; done) | (simp; omega))) | (with_reducible (refine own_trans ?_ (by assumption)))), R3.alloc _, P3.alloc _, Box.new _ _ _⟩
          case measure => simp [intOf]; omega
      by_cases hne : k = 1
      · skip
        have q1 : (k : Int).tmod 2 = 1 := by rw [Int.tmod_eq_emod_of_nonneg (by omega)]; omega
        obtain ⟨j, hjn⟩ : ∃ j : Nat, k / 2 = j := ⟨_, rfl⟩
        have hj : (k : Int).tdiv 2 = j := by rw [Int.tdiv_eq_ediv_of_nonneg (by omega)]; omega
        have hj' := Lib.hid hjn
        have hj2 : 2 * (j : Int) ≤ k := by omega
        clear hjn
        have hkp : 0 < (k : Int) := by omega
        obtain ⟨pm, hpm⟩ : ∃ q, p.mul m = q := ⟨_, rfl⟩
        have HQ := Lib.hid (TM_yes hok hpm)
        have HPI2 : Hid (pm.is = true) := Lib.hid (by rw [← hpm, Mat.is_mul HPI.out HMI.out, hok])
        have HN : PI m0 k0 true pm m j := .inl ⟨rfl, by rw [HPB.out, hne, pbs_one_yes hok, hpm, ← hj'.out, hne]; exact (pbs_zero _ _).symm, HPI2.out, HMI.out⟩
        clear HPB hok hpm
        have hk1 : ¬ (1 < (k : Int)) := by omega
        go_wp2_with fail
        refine (times_is p m pm true pa pb pc pd ma mb mc md HQ.out _).mono ?_
        rintro e w2 ⟨rfl, hb2⟩
        have M2 := M.below hb2
        have R2 := R.below hb2
        have P2 := P.below hb2
        have T2 := own_trans T hb2
        obtain ⟨_, _, _, _, _, _, _, _, _⟩ := P2.four
        go_upto_region 15 with fail
        have M3 : Box ((((w2.setCell ⟨g6, 0, none⟩ (.int .i64 pm.a)).setCell ⟨g6, 1, none⟩ (.int .i64 pm.b)).setCell ⟨g6, 2, none⟩ (.int .i64 pm.c)).setCell ⟨g6, 3, none⟩ (.int .i64 pm.d)) g m.cells := ((((M2.far (by dsimp only; omega) _).far (by dsimp only; omega) _).far (by dsimp only; omega) _).far (by dsimp only; omega) _)
        have R3 : Box ((((w2.setCell ⟨g6, 0, none⟩ (.int .i64 pm.a)).setCell ⟨g6, 1, none⟩ (.int .i64 pm.b)).setCell ⟨g6, 2, none⟩ (.int .i64 pm.c)).setCell ⟨g6, 3, none⟩ (.int .i64 pm.d)) g4 [.int .i64 0, .int .i64 0, .int .i64 0, .int .i64 0] := ((((R2.far (by dsimp only; omega) _).far (by dsimp only; omega) _).far (by dsimp only; omega) _).far (by dsimp only; omega) _)
        have P3 : Box ((((w2.setCell ⟨g6, 0, none⟩ (.int .i64 pm.a)).setCell ⟨g6, 1, none⟩ (.int .i64 pm.b)).setCell ⟨g6, 2, none⟩ (.int .i64 pm.c)).setCell ⟨g6, 3, none⟩ (.int .i64 pm.d)) g6 pm.cells := P2.put4 _ _ _ _
        have T3 : Below w.heap.size w ((((w2.setCell ⟨g6, 0, none⟩ (.int .i64 pm.a)).setCell ⟨g6, 1, none⟩ (.int .i64 pm.b)).setCell ⟨g6, 2, none⟩ (.int .i64 pm.c)).setCell ⟨g6, 3, none⟩ (.int .i64 pm.d)) := by repeat (first | with_reducible exact own_refl _ | with_reducible assumption | with_reducible apply own_alloc | with_reducible apply own_drewN | with_reducible apply own_drew | ((with_reducible refine own_setCell ?_ ?_ _); rotate_left; focus (first | (simp; done) | (simp; omega))) | (with_reducible (refine own_trans ?_ (by assumption))))
        clear M R P T M2 R2 P2 T2 hb2
        generalize ((((w2.setCell ⟨g6, 0, none⟩ (.int .i64 pm.a)).setCell ⟨g6, 1, none⟩ (.int .i64 pm.b)).setCell ⟨g6, 2, none⟩ (.int .i64 pm.c)).setCell ⟨g6, 3, none⟩ (.int .i64 pm.d)) = w3 at M3 R3 P3 T3 ⊢
        obtain ⟨_, _, _, _, _, _, _, _, _⟩ := M3.four
        obtain ⟨_, _, _, _, _, _, _, _, _⟩ := R3.four
        obtain ⟨_, _, _, _, _, _, _, _, _⟩ := P3.four
        go_wp2
        go_roundw
        case rel => exact ⟨j, pm, m, true, w3.heap.size, by go_num, rfl, rfl, by omega, P3.1, R3.1, T3.size, HN, by repeat (first | with_reducible exact own_refl _ | with_reducible assumption | with_reducible apply own_alloc | with_reducible apply own_drewN | with_reducible apply own_drew | ((with_reducible refine own_setCell ?_ ?_ _); rotate_left; focus (first | (simp; done) | (simp; omega))) | (with_reducible (refine own_trans ?_ (by assumption)))), R3.alloc _, P3.alloc _, Box.new _ _ _⟩
        case measure => simp [intOf]; omega
      rcases hsq : (m.mul m).ok with _ | _
      · skip
        have q1 : (k : Int).tmod 2 = 1 := by rw [Int.tmod_eq_emod_of_nonneg (by omega)]; omega
        obtain ⟨j, hjn⟩ : ∃ j : Nat, k / 2 = j := ⟨_, rfl⟩
        have hj : (k : Int).tdiv 2 = j := by rw [Int.tdiv_eq_ediv_of_nonneg (by omega)]; omega
        have hj' := Lib.hid hjn
        have hj2 : 2 * (j : Int) ≤ k := by omega
        clear hjn
        have hkp : 0 < (k : Int) := by omega
        obtain ⟨pm, hpm⟩ : ∃ q, p.mul m = q := ⟨_, rfl⟩
        have HQ := Lib.hid (TM_yes hok hpm)
        have HPI2 : Hid (pm.is = true) := Lib.hid (by rw [← hpm, Mat.is_mul HPI.out HMI.out, hok])
        have HS := Lib.hid (TM_no hsq)
        have HN : PI m0 k0 false pm Mat.zero j := .inr ⟨rfl, by rw [HPB.out]; exact pbs_odd_sq (by omega) hne hok hsq⟩
        clear HPB hok hpm hsq
        have hk1 : 1 < (k : Int) := by omega
        go_wp2_with fail
        refine (times_is p m pm true pa pb pc pd ma mb mc md HQ.out _).mono ?_
        rintro e w2 ⟨rfl, hb2⟩
        have M2 := M.below hb2
        have R2 := R.below hb2
        have P2 := P.below hb2
        have T2 := own_trans T hb2
        obtain ⟨_, _, _, _, _, _, _, _, _⟩ := P2.four
        go_upto_region 15 with fail
        have M3 : Box ((((w2.setCell ⟨g6, 0, none⟩ (.int .i64 pm.a)).setCell ⟨g6, 1, none⟩ (.int .i64 pm.b)).setCell ⟨g6, 2, none⟩ (.int .i64 pm.c)).setCell ⟨g6, 3, none⟩ (.int .i64 pm.d)) g m.cells := ((((M2.far (by dsimp only; omega) _).far (by dsimp only; omega) _).far (by dsimp only; omega) _).far (by dsimp only; omega) _)
        have R3 : Box ((((w2.setCell ⟨g6, 0, none⟩ (.int .i64 pm.a)).setCell ⟨g6, 1, none⟩ (.int .i64 pm.b)).setCell ⟨g6, 2, none⟩ (.int .i64 pm.c)).setCell ⟨g6, 3, none⟩ (.int .i64 pm.d)) g4 [.int .i64 0, .int .i64 0, .int .i64 0, .int .i64 0] := ((((R2.far (by dsimp only; omega) _).far (by dsimp only; omega) _).far (by dsimp only; omega) _).far (by dsimp only; omega) _)
        have P3 : Box ((((w2.setCell ⟨g6, 0, none⟩ (.int .i64 pm.a)).setCell ⟨g6, 1, none⟩ (.int .i64 pm.b)).setCell ⟨g6, 2, none⟩ (.int .i64 pm.c)).setCell ⟨g6, 3, none⟩ (.int .i64 pm.d)) g6 pm.cells := P2.put4 _ _ _ _
        have T3 : Below w.heap.size w ((((w2.setCell ⟨g6, 0, none⟩ (.int .i64 pm.a)).setCell ⟨g6, 1, none⟩ (.int .i64 pm.b)).setCell ⟨g6, 2, none⟩ (.int .i64 pm.c)).setCell ⟨g6, 3, none⟩ (.int .i64 pm.d)) := by repeat (first | with_reducible exact own_refl _ | with_reducible assumption | with_reducible apply own_alloc | with_reducible apply own_drewN | with_reducible apply own_drew | ((with_reducible refine own_setCell ?_ ?_ _); rotate_left; focus (first | (simp; done) | (simp; omega))) | (with_reducible (refine own_trans ?_ (by assumption))))
        clear M R P T M2 R2 P2 T2 hb2
        generalize ((((w2.setCell ⟨g6, 0, none⟩ (.int .i64 pm.a)).setCell ⟨g6, 1, none⟩ (.int .i64 pm.b)).setCell ⟨g6, 2, none⟩ (.int .i64 pm.c)).setCell ⟨g6, 3, none⟩ (.int .i64 pm.d)) = w3 at M3 R3 P3 T3 ⊢
        obtain ⟨_, _, _, _, _, _, _, _, _⟩ := M3.four
        obtain ⟨_, _, _, _, _, _, _, _, _⟩ := R3.four
        obtain ⟨_, _, _, _, _, _, _, _, _⟩ := P3.four
        go_wp2_with fail
        refine (times_is m m Mat.zero false ma mb mc md ma mb mc md HS.out _).mono ?_
        rintro e w4 ⟨rfl, hb4⟩
        have M4 := M3.below hb4
        have R4 := R3.below hb4
        have P4 := P3.below hb4
        have T4 := own_trans T3 hb4
        obtain ⟨_, _, _, _, _, _, _, _, _⟩ := M4.four
        go_upto_region 17 with fail
        have R5 : Box ((((w4.setCell ⟨g, 0, none⟩ (.int .i64 Mat.zero.a)).setCell ⟨g, 1, none⟩ (.int .i64 Mat.zero.b)).setCell ⟨g, 2, none⟩ (.int .i64 Mat.zero.c)).setCell ⟨g, 3, none⟩ (.int .i64 Mat.zero.d)) g4 [.int .i64 0, .int .i64 0, .int .i64 0, .int .i64 0] := ((((R4.far (by dsimp only; omega) _).far (by dsimp only; omega) _).far (by dsimp only; omega) _).far (by dsimp only; omega) _)
        have P5 : Box ((((w4.setCell ⟨g, 0, none⟩ (.int .i64 Mat.zero.a)).setCell ⟨g, 1, none⟩ (.int .i64 Mat.zero.b)).setCell ⟨g, 2, none⟩ (.int .i64 Mat.zero.c)).setCell ⟨g, 3, none⟩ (.int .i64 Mat.zero.d)) g6 pm.cells := ((((P4.far (by dsimp only; omega) _).far (by dsimp only; omega) _).far (by dsimp only; omega) _).far (by dsimp only; omega) _)
        have M5 : Box ((((w4.setCell ⟨g, 0, none⟩ (.int .i64 Mat.zero.a)).setCell ⟨g, 1, none⟩ (.int .i64 Mat.zero.b)).setCell ⟨g, 2, none⟩ (.int .i64 Mat.zero.c)).setCell ⟨g, 3, none⟩ (.int .i64 Mat.zero.d)) g Mat.zero.cells := M4.put4 _ _ _ _
        have T5 : Below w.heap.size w ((((w4.setCell ⟨g, 0, none⟩ (.int .i64 Mat.zero.a)).setCell ⟨g, 1, none⟩ (.int .i64 Mat.zero.b)).setCell ⟨g, 2, none⟩ (.int .i64 Mat.zero.c)).setCell ⟨g, 3, none⟩ (.int .i64 Mat.zero.d)) := by repeat (first | with_reducible exact own_refl _ | with_reducible assumption | with_reducible apply own_alloc | with_reducible apply own_drewN | with_reducible apply own_drew | ((with_reducible refine own_setCell ?_ ?_ _); rotate_left; focus (first | (simp; done) | (simp; omega))) | (with_reducible (refine own_trans ?_ (by assumption))))
        clear M4 R4 P4 T4 hb4
        generalize ((((w4.setCell ⟨g, 0, none⟩ (.int .i64 Mat.zero.a)).setCell ⟨g, 1, none⟩ (.int .i64 Mat.zero.b)).setCell ⟨g, 2, none⟩ (.int .i64 Mat.zero.c)).setCell ⟨g, 3, none⟩ (.int .i64 Mat.zero.d)) = w5 at M5 R5 P5 T5 ⊢
        obtain ⟨_, _, _, _, _, _, _, _, _⟩ := M5.four
        go_wp2
        go_roundw
        case rel => exact ⟨j, pm, Mat.zero, false, w5.heap.size, by go_num, rfl, rfl, by omega, P5.1, R5.1, T5.size, HN, by repeat (first | with_reducible exact own_refl _ | with_reducible assumption | with_reducible apply own_alloc | with_reducible apply own_drewN | with_reducible apply own_drew | ((with_reducible refine own_setCell ?_ ?_ _); rotate_left; focus (first | (simp; done) | (simp; omega))) | (with_reducible (refine own_trans ?_ (by assumption)))), R5.alloc _, P5.alloc _, Box.new _ _ _⟩
        case measure => simp [intOf]; omega
      · skip
        have q1 : (k : Int).tmod 2 = 1 := by rw [Int.tmod_eq_emod_of_nonneg (by omega)]; omega
        obtain ⟨j, hjn⟩ : ∃ j : Nat, k / 2 = j := ⟨_, rfl⟩
        have hj : (k : Int).tdiv 2 = j := by rw [Int.tdiv_eq_ediv_of_nonneg (by omega)]; omega
        have hj' := Lib.hid hjn
        have hj2 : 2 * (j : Int) ≤ k := by omega
        clear hjn
        have hkp : 0 < (k : Int) := by omega
        obtain ⟨pm, hpm⟩ : ∃ q, p.mul m = q := ⟨_, rfl⟩
        have HQ := Lib.hid (TM_yes hok hpm)
        have HPI2 : Hid (pm.is = true) := Lib.hid (by rw [← hpm, Mat.is_mul HPI.out HMI.out, hok])
        obtain ⟨mm, hmm⟩ : ∃ q, m.mul m = q := ⟨_, rfl⟩
        have HS := Lib.hid (TM_yes hsq hmm)
        have HMI2 : Hid (mm.is = true) := Lib.hid (by rw [← hmm, Mat.is_mul HMI.out HMI.out, hsq])
        have HN : PI m0 k0 true pm mm j := .inl ⟨rfl, by rw [HPB.out, pbs_odd_go (by omega) hne hok hsq, hpm, hmm, hj'.out], HPI2.out, HMI2.out⟩
        clear HPB hok hpm hsq hmm
        have hk1 : 1 < (k : Int) := by omega
        go_wp2_with fail
        refine (times_is p m pm true pa pb pc pd ma mb mc md HQ.out _).mono ?_
        rintro e w2 ⟨rfl, hb2⟩
        have M2 := M.below hb2
        have R2 := R.below hb2
        have P2 := P.below hb2
        have T2 := own_trans T hb2
        obtain ⟨_, _, _, _, _, _, _, _, _⟩ := P2.four
        go_upto_region 15 with fail
        have M3 : Box ((((w2.setCell ⟨g6, 0, none⟩ (.int .i64 pm.a)).setCell ⟨g6, 1, none⟩ (.int .i64 pm.b)).setCell ⟨g6, 2, none⟩ (.int .i64 pm.c)).setCell ⟨g6, 3, none⟩ (.int .i64 pm.d)) g m.cells := ((((M2.far (by dsimp only; omega) _).far (by dsimp only; omega) _).far (by dsimp only; omega) _).far (by dsimp only; omega) _)
        have R3 : Box ((((w2.setCell ⟨g6, 0, none⟩ (.int .i64 pm.a)).setCell ⟨g6, 1, none⟩ (.int .i64 pm.b)).setCell ⟨g6, 2, none⟩ (.int .i64 pm.c)).setCell ⟨g6, 3, none⟩ (.int .i64 pm.d)) g4 [.int .i64 0, .int .i64 0, .int .i64 0, .int .i64 0] := ((((R2.far (by dsimp only; omega) _).far (by dsimp only; omega) _).far (by dsimp only; omega) _).far (by dsimp only; omega) _)
        have P3 : Box ((((w2.setCell ⟨g6, 0, none⟩ (.int .i64 pm.a)).setCell ⟨g6, 1, none⟩ (.int .i64 pm.b)).setCell ⟨g6, 2, none⟩ (.int .i64 pm.c)).setCell ⟨g6, 3, none⟩ (.int .i64 pm.d)) g6 pm.cells := P2.put4 _ _ _ _
        have T3 : Below w.heap.size w ((((w2.setCell ⟨g6, 0, none⟩ (.int .i64 pm.a)).setCell ⟨g6, 1, none⟩ (.int .i64 pm.b)).setCell ⟨g6, 2, none⟩ (.int .i64 pm.c)).setCell ⟨g6, 3, none⟩ (.int .i64 pm.d)) := by repeat (first | with_reducible exact own_refl _ | with_reducible assumption | with_reducible apply own_alloc | with_reducible apply own_drewN | with_reducible apply own_drew | ((with_reducible refine own_setCell ?_ ?_ _); rotate_left; focus (first | (simp; done) | (simp; omega))) | (with_reducible (refine own_trans ?_ (by assumption))))
        clear M R P T M2 R2 P2 T2 hb2
        generalize ((((w2.setCell ⟨g6, 0, none⟩ (.int .i64 pm.a)).setCell ⟨g6, 1, none⟩ (.int .i64 pm.b)).setCell ⟨g6, 2, none⟩ (.int .i64 pm.c)).setCell ⟨g6, 3, none⟩ (.int .i64 pm.d)) = w3 at M3 R3 P3 T3 ⊢
        obtain ⟨_, _, _, _, _, _, _, _, _⟩ := M3.four
        obtain ⟨_, _, _, _, _, _, _, _, _⟩ := R3.four
        obtain ⟨_, _, _, _, _, _, _, _, _⟩ := P3.four
        go_wp2_with fail
        refine (times_is m m mm true ma mb mc md ma mb mc md HS.out _).mono ?_
        rintro e w4 ⟨rfl, hb4⟩
        have M4 := M3.below hb4
        have R4 := R3.below hb4
        have P4 := P3.below hb4
        have T4 := own_trans T3 hb4
        obtain ⟨_, _, _, _, _, _, _, _, _⟩ := M4.four
        go_upto_region 17 with fail
        have R5 : Box ((((w4.setCell ⟨g, 0, none⟩ (.int .i64 mm.a)).setCell ⟨g, 1, none⟩ (.int .i64 mm.b)).setCell ⟨g, 2, none⟩ (.int .i64 mm.c)).setCell ⟨g, 3, none⟩ (.int .i64 mm.d)) g4 [.int .i64 0, .int .i64 0, .int .i64 0, .int .i64 0] := ((((R4.far (by dsimp only; omega) _).far (by dsimp only; omega) _).far (by dsimp only; omega) _).far (by dsimp only; omega) _)
        have P5 : Box ((((w4.setCell ⟨g, 0, none⟩ (.int .i64 mm.a)).setCell ⟨g, 1, none⟩ (.int .i64 mm.b)).setCell ⟨g, 2, none⟩ (.int .i64 mm.c)).setCell ⟨g, 3, none⟩ (.int .i64 mm.d)) g6 pm.cells := ((((P4.far (by dsimp only; omega) _).far (by dsimp only; omega) _).far (by dsimp only; omega) _).far (by dsimp only; omega) _)
        have M5 : Box ((((w4.setCell ⟨g, 0, none⟩ (.int .i64 mm.a)).setCell ⟨g, 1, none⟩ (.int .i64 mm.b)).setCell ⟨g, 2, none⟩ (.int .i64 mm.c)).setCell ⟨g, 3, none⟩ (.int .i64 mm.d)) g mm.cells := M4.put4 _ _ _ _
        have T5 : Below w.heap.size w ((((w4.setCell ⟨g, 0, none⟩ (.int .i64 mm.a)).setCell ⟨g, 1, none⟩ (.int .i64 mm.b)).setCell ⟨g, 2, none⟩ (.int .i64 mm.c)).setCell ⟨g, 3, none⟩ (.int .i64 mm.d)) := by repeat (first | with_reducible exact own_refl _ | with_reducible assumption | with_reducible apply own_alloc | with_reducible apply own_drewN | with_reducible apply own_drew | ((with_reducible refine own_setCell ?_ ?_ _); rotate_left; focus (first | (simp; done) | (simp; omega))) | (with_reducible (refine own_trans ?_ (by assumption))))
        clear M4 R4 P4 T4 hb4
        generalize ((((w4.setCell ⟨g, 0, none⟩ (.int .i64 mm.a)).setCell ⟨g, 1, none⟩ (.int .i64 mm.b)).setCell ⟨g, 2, none⟩ (.int .i64 mm.c)).setCell ⟨g, 3, none⟩ (.int .i64 mm.d)) = w5 at M5 R5 P5 T5 ⊢
        obtain ⟨_, _, _, _, _, _, _, _, _⟩ := M5.four
        go_wp2
        go_roundw
        case rel => exact ⟨j, pm, mm, true, w5.heap.size, by go_num, rfl, rfl, by omega, P5.1, R5.1, T5.size, HN, by repeat (first | with_reducible exact own_refl _ | with_reducible assumption | with_reducible apply own_alloc | with_reducible apply own_drewN | with_reducible apply own_drew | ((with_reducible refine own_setCell ?_ ?_ _); rotate_left; focus (first | (simp; done) | (simp; omega))) | (with_reducible (refine own_trans ?_ (by assumption)))), R5.alloc _, P5.alloc _, Box.new _ _ _⟩
        case measure => simp [intOf]; omega
    · rcases hsq : (m.mul m).ok with _ | _
      · skip
        have q1 : (k : Int).tmod 2 = 0 := by rw [Int.tmod_eq_emod_of_nonneg (by omega)]; omega
        obtain ⟨j, hjn⟩ : ∃ j : Nat, k / 2 = j := ⟨_, rfl⟩
        have hj : (k : Int).tdiv 2 = j := by rw [Int.tdiv_eq_ediv_of_nonneg (by omega)]; omega
        have hj' := Lib.hid hjn
        have hj2 : 2 * (j : Int) ≤ k := by omega
        clear hjn
        have hkp : 0 < (k : Int) := by omega
        have HS := Lib.hid (TM_no hsq)
        have HN : PI m0 k0 false p Mat.zero j := .inr ⟨rfl, by rw [HPB.out]; exact pbs_even_sq (by omega) (by omega) hsq⟩
        clear HPB hsq
        have hk1 : 1 < (k : Int) := by omega
        go_wp2_with fail
        refine (times_is m m Mat.zero false ma mb mc md ma mb mc md HS.out _).mono ?_
        rintro e w4 ⟨rfl, hb4⟩
        have M4 := M.below hb4
        have R4 := R.below hb4
        have P4 := P.below hb4
        have T4 := own_trans T hb4
        obtain ⟨_, _, _, _, _, _, _, _, _⟩ := M4.four
        go_upto_region 17 with fail
        have R5 : Box ((((w4.setCell ⟨g, 0, none⟩ (.int .i64 Mat.zero.a)).setCell ⟨g, 1, none⟩ (.int .i64 Mat.zero.b)).setCell ⟨g, 2, none⟩ (.int .i64 Mat.zero.c)).setCell ⟨g, 3, none⟩ (.int .i64 Mat.zero.d)) g4 [.int .i64 0, .int .i64 0, .int .i64 0, .int .i64 0] := ((((R4.far (by dsimp only; omega) _).far (by dsimp only; omega) _).far (by dsimp only; omega) _).far (by dsimp only; omega) _)
        have P5 : Box ((((w4.setCell ⟨g, 0, none⟩ (.int .i64 Mat.zero.a)).setCell ⟨g, 1, none⟩ (.int .i64 Mat.zero.b)).setCell ⟨g, 2, none⟩ (.int .i64 Mat.zero.c)).setCell ⟨g, 3, none⟩ (.int .i64 Mat.zero.d)) g6 p.cells := ((((P4.far (by dsimp only; omega) _).far (by dsimp only; omega) _).far (by dsimp only; omega) _).far (by dsimp only; omega) _)
        have M5 : Box ((((w4.setCell ⟨g, 0, none⟩ (.int .i64 Mat.zero.a)).setCell ⟨g, 1, none⟩ (.int .i64 Mat.zero.b)).setCell ⟨g, 2, none⟩ (.int .i64 Mat.zero.c)).setCell ⟨g, 3, none⟩ (.int .i64 Mat.zero.d)) g Mat.zero.cells := M4.put4 _ _ _ _
        have T5 : Below w.heap.size w ((((w4.setCell ⟨g, 0, none⟩ (.int .i64 Mat.zero.a)).setCell ⟨g, 1, none⟩ (.int .i64 Mat.zero.b)).setCell ⟨g, 2, none⟩ (.int .i64 Mat.zero.c)).setCell ⟨g, 3, none⟩ (.int .i64 Mat.zero.d)) := by repeat (first | with_reducible exact own_refl _ | with_reducible assumption | with_reducible apply own_alloc | with_reducible apply own_drewN | with_reducible apply own_drew | ((with_reducible refine own_setCell ?_ ?_ _); rotate_left; focus (first | (simp; done) | (simp; omega))) | (with_reducible (refine own_trans ?_ (by assumption))))
        clear M4 R4 P4 T4 hb4
        generalize ((((w4.setCell ⟨g, 0, none⟩ (.int .i64 Mat.zero.a)).setCell ⟨g, 1, none⟩ (.int .i64 Mat.zero.b)).setCell ⟨g, 2, none⟩ (.int .i64 Mat.zero.c)).setCell ⟨g, 3, none⟩ (.int .i64 Mat.zero.d)) = w5 at M5 R5 P5 T5 ⊢
        obtain ⟨_, _, _, _, _, _, _, _, _⟩ := M5.four
        go_wp2
        go_roundw
        case rel => exact ⟨j, p, Mat.zero, false, w5.heap.size, by go_num, rfl, rfl, by omega, P5.1, R5.1, T5.size, HN, by repeat (first | with_reducible exact own_refl _ | with_reducible assumption | with_reducible apply own_alloc | with_reducible apply own_drewN | with_reducible apply own_drew | ((with_reducible refine own_setCell ?_ ?_ _); rotate_left; focus (first | (simp; done) | (simp; omega))) | (with_reducible (refine own_trans ?_ (by assumption)))), R5.alloc _, P5.alloc _, Box.new _ _ _⟩
        case measure => simp [intOf]; omega
      · skip
        have q1 : (k : Int).tmod 2 = 0 := by rw [Int.tmod_eq_emod_of_nonneg (by omega)]; omega
        obtain ⟨j, hjn⟩ : ∃ j : Nat, k / 2 = j := ⟨_, rfl⟩
        have hj : (k : Int).tdiv 2 = j := by rw [Int.tdiv_eq_ediv_of_nonneg (by omega)]; omega
        have hj' := Lib.hid hjn
        have hj2 : 2 * (j : Int) ≤ k := by omega
        clear hjn
        have hkp : 0 < (k : Int) := by omega
        obtain ⟨mm, hmm⟩ : ∃ q, m.mul m = q := ⟨_, rfl⟩
        have HS := Lib.hid (TM_yes hsq hmm)
        have HMI2 : Hid (mm.is = true) := Lib.hid (by rw [← hmm, Mat.is_mul HMI.out HMI.out, hsq])
        have HN : PI m0 k0 true p mm j := .inl ⟨rfl, by rw [HPB.out, pbs_even_go (by omega) (by omega) hsq, hmm, hj'.out], HPI.out, HMI2.out⟩
        clear HPB hsq hmm
        have hk1 : 1 < (k : Int) := by omega
        go_wp2_with fail
        refine (times_is m m mm true ma mb mc md ma mb mc md HS.out _).mono ?_
        rintro e w4 ⟨rfl, hb4⟩
        have M4 := M.below hb4
        have R4 := R.below hb4
        have P4 := P.below hb4
        have T4 := own_trans T hb4
        obtain ⟨_, _, _, _, _, _, _, _, _⟩ := M4.four
        go_upto_region 17 with fail
        have R5 : Box ((((w4.setCell ⟨g, 0, none⟩ (.int .i64 mm.a)).setCell ⟨g, 1, none⟩ (.int .i64 mm.b)).setCell ⟨g, 2, none⟩ (.int .i64 mm.c)).setCell ⟨g, 3, none⟩ (.int .i64 mm.d)) g4 [.int .i64 0, .int .i64 0, .int .i64 0, .int .i64 0] := ((((R4.far (by dsimp only; omega) _).far (by dsimp only; omega) _).far (by dsimp only; omega) _).far (by dsimp only; omega) _)
        have P5 : Box ((((w4.setCell ⟨g, 0, none⟩ (.int .i64 mm.a)).setCell ⟨g, 1, none⟩ (.int .i64 mm.b)).setCell ⟨g, 2, none⟩ (.int .i64 mm.c)).setCell ⟨g, 3, none⟩ (.int .i64 mm.d)) g6 p.cells := ((((P4.far (by dsimp only; omega) _).far (by dsimp only; omega) _).far (by dsimp only; omega) _).far (by dsimp only; omega) _)
        have M5 : Box ((((w4.setCell ⟨g, 0, none⟩ (.int .i64 mm.a)).setCell ⟨g, 1, none⟩ (.int .i64 mm.b)).setCell ⟨g, 2, none⟩ (.int .i64 mm.c)).setCell ⟨g, 3, none⟩ (.int .i64 mm.d)) g mm.cells := M4.put4 _ _ _ _
        have T5 : Below w.heap.size w ((((w4.setCell ⟨g, 0, none⟩ (.int .i64 mm.a)).setCell ⟨g, 1, none⟩ (.int .i64 mm.b)).setCell ⟨g, 2, none⟩ (.int .i64 mm.c)).setCell ⟨g, 3, none⟩ (.int .i64 mm.d)) := by repeat (first | with_reducible exact own_refl _ | with_reducible assumption | with_reducible apply own_alloc | with_reducible apply own_drewN | with_reducible apply own_drew | ((with_reducible refine own_setCell ?_ ?_ _); rotate_left; focus (first | (simp; done) | (simp; omega))) | (with_reducible (refine own_trans ?_ (by assumption))))
        clear M4 R4 P4 T4 hb4
        generalize ((((w4.setCell ⟨g, 0, none⟩ (.int .i64 mm.a)).setCell ⟨g, 1, none⟩ (.int .i64 mm.b)).setCell ⟨g, 2, none⟩ (.int .i64 mm.c)).setCell ⟨g, 3, none⟩ (.int .i64 mm.d)) = w5 at M5 R5 P5 T5 ⊢
        obtain ⟨_, _, _, _, _, _, _, _, _⟩ := M5.four
        go_wp2
        go_roundw
        case rel => exact ⟨j, p, mm, true, w5.heap.size, by go_num, rfl, rfl, by omega, P5.1, R5.1, T5.size, HN, by repeat (first | with_reducible exact own_refl _ | with_reducible assumption | with_reducible apply own_alloc | with_reducible apply own_drewN | with_reducible apply own_drew | ((with_reducible refine own_setCell ?_ ?_ _); rotate_left; focus (first | (simp; done) | (simp; omega))) | (with_reducible (refine own_trans ?_ (by assumption)))), R5.alloc _, P5.alloc _, Box.new _ _ _⟩
        case measure => simp [intOf]; omega
end Go.Proofs.YtempjimoiipkmaaDoor
