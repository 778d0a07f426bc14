/- OrderOf: both sides. -/
import Derived.Test.YtmlbbhhjjepmkaaDoorOrd
import Derived.Test.YtmlbbhhjjepmkaaDoorPwS
import Derived.Test.YtmlbbhhjjepmkaaDoorProd
namespace Go.Proofs.YtmlbbhhjjepmkaaDoor
open Go.ChangeShapes Go.WideShapes Go.ChangeAt Go.RowKit

theorem implIs_mO (r : Bool) (m : Mat) (h : m.is = r) (w : World) :
    Calls Tryd.prog 25 #[(.agg #[.int .i64 m.a, .int .i64 m.b, .int .i64 m.c, .int .i64 m.d])] w fun e w' => e = .returned (.bool r) ∧ Below w.heap.size w w' := implIs_is r m.a m.b m.c m.d w h
set_option maxHeartbeats 1000000 in
theorem implOrder_no (m : Mat) (hm : m.is = false) (w : World) : Calls Tryd.prog 12 #[(.agg #[.int .i64 m.a, .int .i64 m.b, .int .i64 m.c, .int .i64 m.d])] w fun e w' => e = .returned (.tuple #[(.int .i64 0), (.int .i64 1)]) ∧ Below w.heap.size w w' := by
  have HM := Lib.hid hm
  clear hm
  go_enter Tryd.func12, Tryd.ntmps12
  go_wp2_with fail
  refine (implIs_mO false m HM.out _).mono ?_
  rintro e w1 ⟨rfl, hb1⟩
  go_wp2
  go_ret2
  exact ⟨rfl, by repeat (first | with_reducible exact own_refl _ | with_reducible assumption | with_reducible apply own_alloc | with_reducible apply own_drewN | with_reducible apply own_drew | ((with_reducible refine own_setCell ?_ ?_ _); rotate_left; focus (first | (simp; done) | (simp; omega))) | (with_reducible (refine own_trans ?_ (by assumption))))⟩
set_option maxHeartbeats 4000000 in
theorem implOrder_is (b : Bool) (m : Mat) (hm : m.is = true) (x : Int) (hF : ∀ J, FE m J → (∀ i, i ≤ J → (Mat.pow m i).ok = true) → (fP m J (kM Mat.one)).getD 0 = x ∧ (fP m J (kM Mat.one)).isSome = b) (kd : Int) (hk : (b = true ∧ kd = 0) ∨ (b = false ∧ x = 0 ∧ kd = 4)) (w : World) (hid : Idn w) :
    Calls Tryd.prog 12 #[(.agg #[.int .i64 m.a, .int .i64 m.b, .int .i64 m.c, .int .i64 m.d])] w fun e w' => e = .returned (.tuple #[(.int .i64 x), (.int .i64 kd)]) ∧ Below w.heap.size w w' := by
  have HM := Lib.hid hm
  have HF := Lib.hid hF
  have HK := Lib.hid hk
  clear hm hF hk
  go_enter Tryd.func12, Tryd.ntmps12
  go_wp2_with fail
  refine (implIs_mO true m HM.out _).mono ?_
  rintro e w1 ⟨rfl, hb1⟩
  have T : Below w.heap.size w w1 := by repeat (first | with_reducible exact own_refl _ | with_reducible assumption | with_reducible apply own_alloc | with_reducible apply own_drewN | with_reducible apply own_drew | ((with_reducible refine own_setCell ?_ ?_ _); rotate_left; focus (first | (simp; done) | (simp; omega))) | (with_reducible (refine own_trans ?_ (by assumption))))
  have BM : Box w1 w.heap.size [.int .i64 m.a, .int .i64 m.b, .int .i64 m.c, .int .i64 m.d] := Box.below (Box.new _ _ _) hb1
  have IX : Idn w1 := Rd.below hid T
  obtain ⟨_, _, _, _, _, _, _, _, _⟩ := BM.four
  obtain ⟨_, _, _, _, _⟩ := Rd.four IX
  go_upto_region 3 with fail
  go_cut [4, 5] (fun s4 s5 wx => s4 = (.int .i64 x) ∧ s5 = .bool b ∧ Below w.heap.size w wx)
  case first =>
    go_region_held3 (fun w' => w'.cell? ⟨w.heap.size, 0, none⟩ = some (.int .i64 m.a) ∧ w'.cell? ⟨w.heap.size, 1, none⟩ = some (.int .i64 m.b) ∧ w'.cell? ⟨w.heap.size, 2, none⟩ = some (.int .i64 m.c) ∧ w'.cell? ⟨w.heap.size, 3, none⟩ = some (.int .i64 m.d) ∧ w'.cell? ⟨0, 0, none⟩ = some (.int .i64 1) ∧ w'.cell? ⟨0, 1, none⟩ = some (.int .i64 0) ∧ w'.cell? ⟨0, 2, none⟩ = some (.int .i64 0) ∧ w'.cell? ⟨0, 3, none⟩ = some (.int .i64 1)) (go_keep)
      (first
      | (go_at_call 26; refine (firstPowers_any m HM.out _ (by first | exact IX | exact Rd.drew IX)).mono ?_; rintro e w2 ⟨bm, J, rfl, hbm, hJ, hL, HFE, hb2⟩; have BM2 := Box.below (by first | exact BM | exact Box.drew BM) hb2; have IX2 : Idn w2 := Rd.below (by first | exact IX | exact Rd.drew IX) hb2; obtain ⟨_, _, _, _, _, _, _, _, _⟩ := BM2.four; obtain ⟨_, _, _, _, _⟩ := Rd.four IX2; have hlk := hL.look Mat.one (by decide); obtain ⟨e1, e2⟩ := HF.out J HFE.out.1 HFE.out.2; rw [e1, e2] at hlk; clear e1 e2; simp only [Mat.one] at hlk; have T2 : Below w.heap.size w w2 := by first | exact own_trans T hb2 | exact own_trans (own_drew T) hb2))
    all_goals
      go_wp2_with fail
      go_meet
      exact ⟨rfl, rfl, T2⟩
  case rest =>
    obtain ⟨rfl, rfl, T2⟩ := hcut
    rcases b with _ | _
    · have HE : Hid (x = 0 ∧ kd = 4) := Lib.hid (by simpa using HK.out)
      go_wp2
      go_ret2
      exact ⟨by rw [HE.out.1, HE.out.2]; rfl, T2⟩
    · have HE : Hid (kd = 0) := Lib.hid (by simpa using HK.out)
      go_wp2
      go_ret2
      exact ⟨by rw [HE.out]; rfl, T2⟩
set_option maxHeartbeats 1000000 in
theorem specOrder_no (m : Mat) (hm : m.is = false) (w : World) : Calls Tryd.prog 10 #[(.agg #[.int .i64 m.a, .int .i64 m.b, .int .i64 m.c, .int .i64 m.d])] w fun e w' => e = .returned (.tuple #[(.int .i64 0), (.int .i64 1)]) ∧ Below w.heap.size w w' := by
  have HM := Lib.hid hm
  clear hm
  go_enter Tryd.func10, Tryd.ntmps10
  go_wp2_with fail
  refine (l01Is_m false m HM.out _).mono ?_
  rintro e w1 ⟨rfl, hb1⟩
  go_wp2
  go_ret2
  exact ⟨rfl, by repeat (first | with_reducible exact own_refl _ | with_reducible assumption | with_reducible apply own_alloc | with_reducible apply own_drewN | with_reducible apply own_drew | ((with_reducible refine own_setCell ?_ ?_ _); rotate_left; focus (first | (simp; done) | (simp; omega))) | (with_reducible (refine own_trans ?_ (by assumption))))⟩
set_option maxHeartbeats 1000000 in
theorem specOrder_big (m : Mat) (hm : m.is = true) (kk : Int) (hk : kind m.a m.b m.c m.d = kk) (hk2 : 1 < kk) (w : World) : Calls Tryd.prog 10 #[(.agg #[.int .i64 m.a, .int .i64 m.b, .int .i64 m.c, .int .i64 m.d])] w fun e w' => e = .returned (.tuple #[(.int .i64 0), (.int .i64 4)]) ∧ Below w.heap.size w w' := by
  have HM := Lib.hid hm
  have HK := Lib.hid hk
  obtain ⟨ea, _, _, ed, _⟩ := Mat.is_ent hm
  clear hm hk
  go_enter Tryd.func10, Tryd.ntmps10
  go_wp2_with fail
  refine (l01Is_m true m HM.out _).mono ?_
  rintro e w1 ⟨rfl, hb1⟩
  have BM : Box w1 w.heap.size [.int .i64 m.a, .int .i64 m.b, .int .i64 m.c, .int .i64 m.d] := Box.below (Box.new _ _ _) hb1
  obtain ⟨_, _, _, _, _, _, _, _, _⟩ := BM.four
  go_wp2_with fail
  refine (l01Kind_is kk _ _ _ _ ea ed HK.out _).mono ?_
  rintro e w2 ⟨rfl, hb2⟩
  go_wp2
  go_ret2
  exact ⟨rfl, by repeat (first | with_reducible exact own_refl _ | with_reducible assumption | with_reducible apply own_alloc | with_reducible apply own_drewN | with_reducible apply own_drew | ((with_reducible refine own_setCell ?_ ?_ _); rotate_left; focus (first | (simp; done) | (simp; omega))) | (with_reducible (refine own_trans ?_ (by assumption))))⟩
set_option maxRecDepth 100000 in
set_option maxHeartbeats 4000000 in
theorem specOrder_small (m : Mat) (hm : m.is = true) (kk : Int) (hk : kind m.a m.b m.c m.d = kk) (hk2 : kk ≤ 1) (hall : ∀ n, (Mat.pow m n).ok = true) (o : Nat) (ho1 : 1 ≤ o) (ho6 : o ≤ 6) (ho : Mat.pow m o = Mat.one) (hmin : ∀ i, 1 ≤ i → i < o → Mat.pow m i ≠ Mat.one) (w : World) :
    Calls Tryd.prog 10 #[(.agg #[.int .i64 m.a, .int .i64 m.b, .int .i64 m.c, .int .i64 m.d])] w fun e w' => e = .returned (.tuple #[(.int .i64 o), (.int .i64 0)]) ∧ Below w.heap.size w w' := by
  have HM := Lib.hid hm
  have HK := Lib.hid hk
  have HALL := Lib.hid hall
  have HO := Lib.hid ho
  have HMIN := Lib.hid hmin
  have HP0 := Lib.hid (Mat.pow_one' m)
  obtain ⟨ea, eb, ec, ed, _⟩ := Mat.is_ent hm
  clear hm hk hall ho hmin
  go_enter Tryd.func10, Tryd.ntmps10
  go_wp2_with fail
  refine (l01Is_m true m HM.out _).mono ?_
  rintro e w1 ⟨rfl, hb1⟩
  have BM : Box w1 w.heap.size [.int .i64 m.a, .int .i64 m.b, .int .i64 m.c, .int .i64 m.d] := Box.below (Box.new _ _ _) hb1
  obtain ⟨_, _, _, _, _, _, _, _, _⟩ := BM.four
  go_wp2_with fail
  refine (l01Kind_is kk _ _ _ _ ea ed HK.out _).mono ?_
  rintro e w2 ⟨rfl, hb2⟩
  have BM2 := BM.below hb2
  have T2 : Below w.heap.size w w2 := by repeat (first | with_reducible exact own_refl _ | with_reducible assumption | with_reducible apply own_alloc | with_reducible apply own_drewN | with_reducible apply own_drew | ((with_reducible refine own_setCell ?_ ?_ _); rotate_left; focus (first | (simp; done) | (simp; omega))) | (with_reducible (refine own_trans ?_ (by assumption))))
  obtain ⟨_, _, _, _, _, _, _, _, _⟩ := BM2.four
  go_wp2
  go_loopw [4, 5] (fun k a wr => ∃ (j g : Nat) (p : Mat), k = (.int .i64 ((j : Int))) ∧ a = .pointer (some ⟨g, 0, none⟩) ∧ 1 ≤ j ∧ j ≤ o ∧ Hid (Mat.pow m j = p) ∧ Below w.heap.size w wr ∧ Box wr w.heap.size [.int .i64 m.a, .int .i64 m.b, .int .i64 m.c, .int .i64 m.d] ∧ w.heap.size < g ∧ Box wr g p.cells) (fun k _ _ => 7 - (intOf k).toNat)
  case atStart => exact ⟨1, w2.heap.size, m, rfl, rfl, Nat.le_refl _, ho1, HP0, own_alloc T2 _, BM2.alloc _, BM2.1, Box.new _ _ _⟩
  case round =>
    obtain ⟨j, g, p, rfl, rfl, hj1, hjo, HP, T, M, hg, P⟩ := hrel
    obtain ⟨_, _, _, _, _, _, _, _, _⟩ := M.four
    obtain ⟨_, _, _, _, _, _, _, _, _⟩ := P.four
    have heq : ∀ w, (Op.equalIn 10000 32 (.agg #[.int .i64 p.a, .int .i64 p.b, .int .i64 p.c, .int .i64 p.d]) (.agg #[.int .i64 1, .int .i64 0, .int .i64 0, .int .i64 1])).run Tryd.prog w = .ok (decide (p.a = 1 ∧ p.b = 0 ∧ p.c = 0 ∧ p.d = 1)) w := fun w => eq_mat p.a p.b p.c p.d 1 0 0 1 w
    by_cases hjo' : j = o
    · have HJ := Lib.hid hjo'
      have hd : decide (p.a = 1 ∧ p.b = 0 ∧ p.c = 0 ∧ p.d = 1) = true := by
        have h1 := HO.out
        rw [← hjo', HP.out] at h1
        subst h1
        decide
      rw [hd] at heq
      clear hd hjo'
      go_wp2
      go_ret2
      exact ⟨by rw [HJ.out]; rfl, T⟩
    · have hlt : j < o := by omega
      have hd : decide (p.a = 1 ∧ p.b = 0 ∧ p.c = 0 ∧ p.d = 1) = false := decide_eq_false fun h => HMIN.out j hj1 hlt (by
        rw [HP.out]
        obtain ⟨a, b, c, d⟩ := p
        obtain ⟨rfl, rfl, rfl, rfl⟩ := h
        rfl)
      rw [hd] at heq
      have hpo : p.ok = true := by rw [← HP.out]; exact HALL.out _
      obtain ⟨pa, pb, pc, pd⟩ := Mat.ok_ent hpo
      obtain ⟨p', hp'⟩ : ∃ p', p.mul m = p' := ⟨_, rfl⟩
      have HP' := Lib.hid (show Mat.pow m (j + 1) = p' by rw [Mat.pow, HP.out, hp'])
      have HQ := Lib.hid (TM_yes (by rw [hp', ← HP'.out]; exact HALL.out _) hp')
      clear hd hpo hp' hjo'
      go_wp2_with fail
      refine (times_is p m p' true pa pb pc pd ea eb ec ed HQ.out _).mono ?_
      rintro e w3 ⟨rfl, hb3⟩
      have M3 := M.below hb3
      have P3 := P.below hb3
      have T3 := own_trans T hb3
      have M4 := (((M3.far (p := ⟨g, 0, none⟩) (by dsimp only; omega) (.int .i64 p'.a)).far (p := ⟨g, 1, none⟩) (by dsimp only; omega) (.int .i64 p'.b)).far (p := ⟨g, 2, none⟩) (by dsimp only; omega) (.int .i64 p'.c)).far (p := ⟨g, 3, none⟩) (by dsimp only; omega) (.int .i64 p'.d)
      have P4 := P3.put4 (.int .i64 p'.a) (.int .i64 p'.b) (.int .i64 p'.c) (.int .i64 p'.d)
      have T4 : Below w.heap.size w ((((w3.setCell ⟨g, 0, none⟩ (.int .i64 p'.a)).setCell ⟨g, 1, none⟩ (.int .i64 p'.b)).setCell ⟨g, 2, none⟩ (.int .i64 p'.c)).setCell ⟨g, 3, none⟩ (.int .i64 p'.d)) := by repeat (first | with_reducible exact own_refl _ | with_reducible assumption | with_reducible apply own_alloc | with_reducible apply own_drewN | with_reducible apply own_drew | ((with_reducible refine own_setCell ?_ ?_ _); rotate_left; focus (first | (simp; done) | (simp; omega))) | (with_reducible (refine own_trans ?_ (by assumption))))
      obtain ⟨_, _, _, _, _, _, _, _, _⟩ := P3.four
      go_upto_region 10 with fail
      generalize ((((w3.setCell ⟨g, 0, none⟩ (.int .i64 p'.a)).setCell ⟨g, 1, none⟩ (.int .i64 p'.b)).setCell ⟨g, 2, none⟩ (.int .i64 p'.c)).setCell ⟨g, 3, none⟩ (.int .i64 p'.d)) = wz at *
      obtain ⟨_, _, _, _, _, _, _, _, _⟩ := P4.four
      have hz := M4.1
      go_wp2
      go_roundw
      case rel => exact ⟨j + 1, wz.heap.size, p', by go_num, rfl, by omega, by omega, HP', own_alloc T4 _, M4.alloc _, hz, Box.new _ _ _⟩
      case measure => simp [intOf]; omega
end Go.Proofs.YtmlbbhhjjepmkaaDoor
