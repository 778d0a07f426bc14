/- IndexOf: contracts of both sides. -/
import Derived.Test.YtdcomnnpnhinfaaDoorIdxM
import Derived.Test.YtdcomnnpnhinfaaDoorMd
import Derived.Test.YtdcomnnpnhinfaaDoorMem
namespace Go.Proofs.YtdcomnnpnhinfaaDoor
open Go.ChangeShapes Go.WideShapes Go.ChangeAt Go.RowKit

theorem cop_posI (n : Int) : ∀ k : Nat, 1 ≤ (cop n (k + 1)).length
  | 0 => by simp [cop]
  | k + 1 => by
    have := cop_posI n k
    rw [cop]
    split
    · simp
    · exact this
theorem implIdx_no (f n : Int) (h : (inR f 0 2 && inR n 1 1000) = false) (w : World) :
    Calls Tryd.prog 33 #[(.int .i64 f), (.int .i64 n)] w fun e w' => e = .returned (.tuple #[(.int .i64 0), (.int .i64 2)]) ∧ Below w.heap.size w w' := by
  by_cases hn : 1 ≤ n ∧ n ≤ 1000
  · have hf : Hid (inR f 0 2 = false) := Lib.hid (by
      have : inR n 1 1000 = true := decide_eq_true hn
      rw [this] at h
      simpa using h)
    obtain ⟨m, hm⟩ : ∃ m, md 999 2 (n * n * n) n = m := ⟨_, rfl⟩
    have HC := Lib.hid (fun w => implCount_yes n hn.1 hn.2 w)
    rw [hm] at HC
    clear h hm hn
    go_enter Tryd.func33, Tryd.ntmps33
    go_wp2_with fail
    refine (HC.out _).mono ?_
    rintro e w1 ⟨rfl, rfl⟩
    go_wp2_with fail
    refine (isFamily_is false _ hf.out _).mono ?_
    rintro e w1 ⟨rfl, rfl⟩
    go_wp2
    go_ret2
    exact ⟨rfl, own_refl _⟩
  · have HC := Lib.hid (fun w => implCount_no n hn w)
    clear h hn
    go_enter Tryd.func33, Tryd.ntmps33
    go_wp2_with fail
    refine (HC.out _).mono ?_
    rintro e w1 ⟨rfl, rfl⟩
    go_wp2
    go_ret2
    exact ⟨rfl, own_refl _⟩
theorem specIdx_no (f n : Int) (h : (inR f 0 2 && inR n 1 1000) = false) (w : World) :
    Calls Tryd.prog 78 #[(.int .i64 f), (.int .i64 n)] w fun e w' => e = .returned (.tuple #[(.int .i64 0), (.int .i64 2)]) ∧ Below w.heap.size w w' := by
  rcases hf : inR f 0 2 with _ | _
  · have HF := Lib.hid hf
    clear h hf
    go_enter Tryd.func78, Tryd.ntmps78
    go_wp2_with fail
    refine (l01In_is false _ _ _ HF.out _).mono ?_
    rintro e w1 ⟨rfl, rfl⟩
    go_wp2
    go_ret2
    exact ⟨rfl, own_refl _⟩
  · have HF := Lib.hid hf
    have HN := Lib.hid (show inR n 1 1000 = false by rw [hf] at h; simpa using h)
    clear h hf
    go_enter Tryd.func78, Tryd.ntmps78
    go_wp2_with fail
    refine (l01In_is true _ _ _ HF.out _).mono ?_
    rintro e w1 ⟨rfl, rfl⟩
    go_wp2_with fail
    refine (l01In_is false _ _ _ HN.out _).mono ?_
    rintro e w1 ⟨rfl, rfl⟩
    go_wp2
    go_ret2
    exact ⟨rfl, own_refl _⟩

set_option maxHeartbeats 1000000 in
theorem implIdx_0 (n : Int) (h1 : 1 ≤ n) (h2 : n ≤ 1000) (w : World) :
    Calls Tryd.prog 33 #[(.int .i64 0), (.int .i64 n)] w fun e w' => e = .returned (.tuple #[(.int .i64 (md 999 2 (n * n * n) n / (n * ((cop n n.toNat).length : Int)))), (.int .i64 0)]) ∧ Below w.heap.size w w' := by
  obtain ⟨q1, q2, q3, q4⟩ := cube_facts h1 h2
  obtain ⟨m1, m2⟩ := md_bd 999 2 (n * n * n) n (by omega) (by omega) h2 h1
  have HC := Lib.hid (fun w => implCount_yes n h1 h2 w)
  have HU := Lib.hid (fun w => countUnits_any n n.toNat (by omega) (by omega) w)
  obtain ⟨u, hu⟩ : ∃ u : Int, ((cop n n.toNat).length : Int) = u := ⟨_, rfl⟩
  have u1 : 1 ≤ u ∧ u ≤ 1000 := by
    have a := cop_len n n.toNat
    have b := cop_posI n (n.toNat - 1)
    rw [show n.toNat - 1 + 1 = n.toNat by omega] at b
    omega
  obtain ⟨m, hm⟩ : ∃ m, md 999 2 (n * n * n) n = m := ⟨_, rfl⟩
  rw [hm] at m1 m2 HC ⊢
  rw [hu] at HU ⊢
  have z1 : 1 * 1 ≤ n * u := Int.mul_le_mul h1 u1.1 (by omega) (by omega)
  have z2 : n * u ≤ 1000 * 1000 := Int.mul_le_mul h2 u1.2 (by omega) (by omega)
  have d1 : 0 ≤ m / (n * u) := Int.ediv_nonneg m1 (by omega)
  have d2 : m / (n * u) ≤ m := Int.ediv_le_self _ m1
  obtain ⟨z, hz⟩ : ∃ z : Int, n * u = z := ⟨_, rfl⟩
  rw [hz] at z1 z2 d1 d2
  have HR : Hid (m / (n * u) = m / z) := Lib.hid (by rw [hz])
  obtain ⟨_, _⟩ := u1
  have z0 : m ≤ 1000000000 := by omega
  clear q1 q2 q3 q4 m2 hm hu
  go_enter Tryd.func33, Tryd.ntmps33
  go_wp2_with fail
  refine (HC.out _).mono ?_
  rintro e w1 ⟨rfl, rfl⟩
  go_wp2_with fail
  refine (isFamily_is true _ rfl _).mono ?_
  rintro e w1 ⟨rfl, rfl⟩
  go_wp2_with fail
  refine (HU.out _).mono ?_
  rintro e w1 ⟨rfl, hb1⟩
  go_wp2
  go_ret2
  exact ⟨ret_int2 HR.out.symm, by repeat (first | with_reducible exact own_refl _ | with_reducible assumption | with_reducible apply own_alloc | with_reducible apply own_drewN | with_reducible apply own_drew | ((with_reducible refine own_setCell ?_ ?_ _); rotate_left; focus (first | (simp; done) | (simp; omega))) | (with_reducible (refine own_trans ?_ (by assumption))))⟩
set_option maxHeartbeats 1000000 in
theorem implIdx_1 (n : Int) (h1 : 1 ≤ n) (h2 : n ≤ 1000) (w : World) :
    Calls Tryd.prog 33 #[(.int .i64 1), (.int .i64 n)] w fun e w' => e = .returned (.tuple #[(.int .i64 (md 999 2 (n * n * n) n / n)), (.int .i64 0)]) ∧ Below w.heap.size w w' := by
  obtain ⟨q1, q2, q3, q4⟩ := cube_facts h1 h2
  obtain ⟨m1, m2⟩ := md_bd 999 2 (n * n * n) n (by omega) (by omega) h2 h1
  have HC := Lib.hid (fun w => implCount_yes n h1 h2 w)
  have HU := Lib.hid (fun w => countUnits_any n n.toNat (by omega) (by omega) w)
  obtain ⟨u, hu⟩ : ∃ u : Int, ((cop n n.toNat).length : Int) = u := ⟨_, rfl⟩
  have u1 : 1 ≤ u ∧ u ≤ 1000 := by
    have a := cop_len n n.toNat
    have b := cop_posI n (n.toNat - 1)
    rw [show n.toNat - 1 + 1 = n.toNat by omega] at b
    omega
  obtain ⟨m, hm⟩ : ∃ m, md 999 2 (n * n * n) n = m := ⟨_, rfl⟩
  rw [hm] at m1 m2 HC ⊢
  rw [hu] at HU
  have d1 : 0 ≤ m / n := Int.ediv_nonneg m1 (by omega)
  have d2 : m / n ≤ m := Int.ediv_le_self _ m1
  obtain ⟨_, _⟩ := u1
  have z0 : m ≤ 1000000000 := by omega
  clear q1 q2 q3 q4 m2 hm hu
  go_enter Tryd.func33, Tryd.ntmps33
  go_wp2_with fail
  refine (HC.out _).mono ?_
  rintro e w1 ⟨rfl, rfl⟩
  go_wp2_with fail
  refine (isFamily_is true _ rfl _).mono ?_
  rintro e w1 ⟨rfl, rfl⟩
  go_wp2
  go_ret2
  exact ⟨rfl, by repeat (first | with_reducible exact own_refl _ | with_reducible assumption | with_reducible apply own_alloc | with_reducible apply own_drewN | with_reducible apply own_drew | ((with_reducible refine own_setCell ?_ ?_ _); rotate_left; focus (first | (simp; done) | (simp; omega))) | (with_reducible (refine own_trans ?_ (by assumption))))⟩
set_option maxHeartbeats 1000000 in
theorem implIdx_2 (n : Int) (h1 : 1 ≤ n) (h2 : n ≤ 1000) (w : World) :
    Calls Tryd.prog 33 #[(.int .i64 2), (.int .i64 n)] w fun e w' => e = .returned (.tuple #[(.int .i64 (md 999 2 (n * n * n) n)), (.int .i64 0)]) ∧ Below w.heap.size w w' := by
  obtain ⟨q1, q2, q3, q4⟩ := cube_facts h1 h2
  obtain ⟨m1, m2⟩ := md_bd 999 2 (n * n * n) n (by omega) (by omega) h2 h1
  have HC := Lib.hid (fun w => implCount_yes n h1 h2 w)
  have HU := Lib.hid (fun w => countUnits_any n n.toNat (by omega) (by omega) w)
  obtain ⟨u, hu⟩ : ∃ u : Int, ((cop n n.toNat).length : Int) = u := ⟨_, rfl⟩
  have u1 : 1 ≤ u ∧ u ≤ 1000 := by
    have a := cop_len n n.toNat
    have b := cop_posI n (n.toNat - 1)
    rw [show n.toNat - 1 + 1 = n.toNat by omega] at b
    omega
  obtain ⟨m, hm⟩ : ∃ m, md 999 2 (n * n * n) n = m := ⟨_, rfl⟩
  rw [hm] at m1 m2 HC ⊢
  rw [hu] at HU
  obtain ⟨_, _⟩ := u1
  have z0 : m ≤ 1000000000 := by omega
  clear q1 q2 q3 q4 m2 hm hu
  go_enter Tryd.func33, Tryd.ntmps33
  go_wp2_with fail
  refine (HC.out _).mono ?_
  rintro e w1 ⟨rfl, rfl⟩
  go_wp2_with fail
  refine (isFamily_is true _ rfl _).mono ?_
  rintro e w1 ⟨rfl, rfl⟩
  go_wp2
  go_ret2
  exact ⟨rfl, by repeat (first | with_reducible exact own_refl _ | with_reducible assumption | with_reducible apply own_alloc | with_reducible apply own_drewN | with_reducible apply own_drew | ((with_reducible refine own_setCell ?_ ?_ _); rotate_left; focus (first | (simp; done) | (simp; omega))) | (with_reducible (refine own_trans ?_ (by assumption))))⟩
set_option maxHeartbeats 2000000 in
theorem specIdx_0 (n : Int) (h1 : 1 ≤ n) (h2 : n ≤ 1000) (w : World) :
    Calls Tryd.prog 78 #[(.int .i64 0), (.int .i64 n)] w fun e w' => e = .returned (.tuple #[(.int .i64 (mz 999 2 n n)), (.int .i64 0)]) ∧ Below w.heap.size w w' := by
  obtain ⟨q1, q2, q3, q4⟩ := cube_facts h1 h2
  have hR := Lib.hid (show inR n 1 1000 = true from decide_eq_true ⟨h1, h2⟩)
  obtain ⟨R, hR2⟩ : ∃ R, mz 999 2 n n = R := ⟨_, rfl⟩
  rw [hR2]
  have HR := Lib.hid hR2
  clear hR2
  go_enter Tryd.func78, Tryd.ntmps78
  go_wp2_with fail
  refine (l01In_is true _ _ _ rfl _).mono ?_
  rintro e w1 ⟨rfl, rfl⟩
  go_wp2_with fail
  refine (l01In_is true _ _ _ hR.out _).mono ?_
  rintro e w1 ⟨rfl, rfl⟩
  go_wp2
  go_loop [6, 7, 8] (fun o r p => ∃ (c s q : Int), o = (.int .i64 c) ∧ r = (.int .i64 s) ∧ p = (.int .i64 q) ∧ 0 ≤ c ∧ c ≤ 1000000000 ∧ 1 ≤ s ∧ s ≤ 1000 ∧ 2 ≤ q ∧ q ≤ 1001 ∧ Hid (c * s ≤ 1000000) ∧ Hid (mz (1001 - q).toNat q c s = R)) (fun _ _ p => (1001 - intOf p).toNat)
  case atStart => exact ⟨_, _, _, rfl, rfl, rfl, by omega, by omega, by omega, by omega, by omega, by omega, Lib.hid (by omega), Lib.hid HR.out⟩
  case round =>
    obtain ⟨c, s, q, rfl, rfl, rfl, c1, c2, s1, s2, p1, p2, HP, HM⟩ := hrel
    by_cases hq : q ≤ s
    · by_cases hr : s % q = 0
      · have hr' : (s % q != 0) = false := by simp [hr]
        have HT := Lib.hid (mz_take (c := c) p1 hq s2 hr)
        have HL := Lib.hid (strip_le p1 1000 (s / q) (div_facts p1 s1 hr).1)
        have HX := Lib.hid (strip_step p1 s1 s2 hr)
        obtain ⟨d1, d2, d5, d6, d7⟩ := mz_small p1 c1 s1 hr HP.out HL.out.1 HL.out.2
        have HD7 : Hid (c / q * (q + 1) * strip 1000 q s ≤ 1000000) := Lib.hid (by rw [← HX.out]; exact d7)
        clear hr d7
        go_wp2
        go_loop [7] (fun r => ∃ t : Int, r = (.int .i64 t) ∧ 1 ≤ t ∧ t ≤ 1000 ∧ Hid (strip 1000 q t = strip 1000 q s)) (fun r => (intOf r).toNat)
        case atStart => exact ⟨_, rfl, s1, s2, Lib.hid rfl⟩
        case round =>
          obtain ⟨t, rfl, t1, t2, HS⟩ := hrel
          by_cases ht : t % q = 0
          · have ht' : (t % q == 0) = true := by simp [ht]
            obtain ⟨f1, f2⟩ := div_facts p1 t1 ht
            have HU := Lib.hid (strip_step p1 t1 t2 ht)
            clear ht
            go_wp2
            go_round
            case rel => exact ⟨_, rfl, f1, by omega, Lib.hid (HU.out.trans HS.out)⟩
            case measure => simp [intOf]; omega
          · have ht' : (t % q == 0) = false := by simp [ht]
            have HU := Lib.hid (strip_stop (p := q) ht)
            clear ht
            go_wp2
            go_round
            case rel => exact ⟨c / q * (q + 1), t, q + 1, rfl, rfl, rfl, d5, by omega, t1, t2, by omega, by omega, Lib.hid (by rw [← HU.out, HS.out]; exact HD7.out), Lib.hid (by rw [← HU.out, HS.out]; exact HT.out.trans HM.out)⟩
            case measure => simp [intOf]; omega
      · have hr' : (s % q != 0) = true := by simp [hr]
        have HT := Lib.hid (mz_skip (c := c) p1 hq s2 hr)
        clear hr
        go_wp2
        go_round
        case rel => exact ⟨_, _, _, rfl, rfl, rfl, c1, c2, s1, s2, by omega, by omega, HP, Lib.hid (HT.out.trans HM.out)⟩
        case measure => simp [intOf]; omega
    · have HE := Lib.hid (mz_done (f := (1001 - q).toNat) (c := c) (Int.not_le.1 hq))
      go_wp2
      go_ret2
      exact ⟨ret_int2 (HE.out.symm.trans HM.out), own_refl _⟩
set_option maxHeartbeats 2000000 in
theorem specIdx_1 (n : Int) (h1 : 1 ≤ n) (h2 : n ≤ 1000) (w : World) :
    Calls Tryd.prog 78 #[(.int .i64 1), (.int .i64 n)] w fun e w' => e = .returned (.tuple #[(.int .i64 (md 999 2 (n * n) n)), (.int .i64 0)]) ∧ Below w.heap.size w w' := by
  obtain ⟨q1, q2, q3, q4⟩ := cube_facts h1 h2
  have hR := Lib.hid (show inR n 1 1000 = true from decide_eq_true ⟨h1, h2⟩)
  obtain ⟨R, hR2⟩ : ∃ R, md 999 2 (n * n) n = R := ⟨_, rfl⟩
  rw [hR2]
  have HR := Lib.hid hR2
  clear hR2
  go_enter Tryd.func78, Tryd.ntmps78
  go_wp2_with fail
  refine (l01In_is true _ _ _ rfl _).mono ?_
  rintro e w1 ⟨rfl, rfl⟩
  go_wp2_with fail
  refine (l01In_is true _ _ _ hR.out _).mono ?_
  rintro e w1 ⟨rfl, rfl⟩
  go_wp2
  go_loop [6, 7, 8] (fun o r p => ∃ (c s q : Int), o = (.int .i64 c) ∧ r = (.int .i64 s) ∧ p = (.int .i64 q) ∧ 0 ≤ c ∧ c ≤ 1000000000 ∧ 1 ≤ s ∧ s ≤ 1000 ∧ 2 ≤ q ∧ q ≤ 1001 ∧ Hid (md (1001 - q).toNat q c s = R)) (fun _ _ p => (1001 - intOf p).toNat)
  case atStart => exact ⟨_, _, _, rfl, rfl, rfl, by omega, by omega, by omega, by omega, by omega, by omega, Lib.hid HR.out⟩
  case round =>
    obtain ⟨c, s, q, rfl, rfl, rfl, c1, c2, s1, s2, p1, p2, HM⟩ := hrel
    by_cases hq : q ≤ s
    · by_cases hr : s % q = 0
      · have hr' : (s % q != 0) = false := by simp [hr]
        have HT := Lib.hid (md_take (c := c) p1 hq s2 hr)
        obtain ⟨d1, d2, d3, d4, d5, d6⟩ := cnt_facts (c := c) p1 (by omega) c1
        clear hr
        go_wp2
        go_loop [7] (fun r => ∃ t : Int, r = (.int .i64 t) ∧ 1 ≤ t ∧ t ≤ 1000 ∧ Hid (strip 1000 q t = strip 1000 q s)) (fun r => (intOf r).toNat)
        case atStart => exact ⟨_, rfl, s1, s2, Lib.hid rfl⟩
        case round =>
          obtain ⟨t, rfl, t1, t2, HS⟩ := hrel
          by_cases ht : t % q = 0
          · have ht' : (t % q == 0) = true := by simp [ht]
            obtain ⟨f1, f2⟩ := div_facts p1 t1 ht
            have HU := Lib.hid (strip_step p1 t1 t2 ht)
            clear ht
            go_wp2
            go_round
            case rel => exact ⟨_, rfl, f1, by omega, Lib.hid (HU.out.trans HS.out)⟩
            case measure => simp [intOf]; omega
          · have ht' : (t % q == 0) = false := by simp [ht]
            have HU := Lib.hid (strip_stop (p := q) ht)
            clear ht
            go_wp2
            go_round
            case rel => exact ⟨c / (q * q) * (q * q - 1), t, q + 1, rfl, rfl, rfl, d5, by omega, t1, t2, by omega, by omega, Lib.hid (by rw [← HU.out, HS.out]; exact HT.out.trans HM.out)⟩
            case measure => simp [intOf]; omega
      · have hr' : (s % q != 0) = true := by simp [hr]
        have HT := Lib.hid (md_skip (c := c) p1 hq s2 hr)
        clear hr
        go_wp2
        go_round
        case rel => exact ⟨_, _, _, rfl, rfl, rfl, c1, c2, s1, s2, by omega, by omega, Lib.hid (HT.out.trans HM.out)⟩
        case measure => simp [intOf]; omega
    · have HE := Lib.hid (md_done (f := (1001 - q).toNat) (c := c) (Int.not_le.1 hq))
      go_wp2
      go_ret2
      exact ⟨ret_int2 (HE.out.symm.trans HM.out), own_refl _⟩
set_option maxHeartbeats 2000000 in
theorem specIdx_2 (n : Int) (h1 : 1 ≤ n) (h2 : n ≤ 1000) (w : World) :
    Calls Tryd.prog 78 #[(.int .i64 2), (.int .i64 n)] w fun e w' => e = .returned (.tuple #[(.int .i64 (md 999 2 (n * n * n) n)), (.int .i64 0)]) ∧ Below w.heap.size w w' := by
  obtain ⟨q1, q2, q3, q4⟩ := cube_facts h1 h2
  have hR := Lib.hid (show inR n 1 1000 = true from decide_eq_true ⟨h1, h2⟩)
  obtain ⟨R, hR2⟩ : ∃ R, md 999 2 (n * n * n) n = R := ⟨_, rfl⟩
  rw [hR2]
  have HR := Lib.hid hR2
  clear hR2
  go_enter Tryd.func78, Tryd.ntmps78
  go_wp2_with fail
  refine (l01In_is true _ _ _ rfl _).mono ?_
  rintro e w1 ⟨rfl, rfl⟩
  go_wp2_with fail
  refine (l01In_is true _ _ _ hR.out _).mono ?_
  rintro e w1 ⟨rfl, rfl⟩
  go_wp2
  go_loop [6, 7, 8] (fun o r p => ∃ (c s q : Int), o = (.int .i64 c) ∧ r = (.int .i64 s) ∧ p = (.int .i64 q) ∧ 0 ≤ c ∧ c ≤ 1000000000 ∧ 1 ≤ s ∧ s ≤ 1000 ∧ 2 ≤ q ∧ q ≤ 1001 ∧ Hid (md (1001 - q).toNat q c s = R)) (fun _ _ p => (1001 - intOf p).toNat)
  case atStart => exact ⟨_, _, _, rfl, rfl, rfl, by omega, by omega, by omega, by omega, by omega, by omega, Lib.hid HR.out⟩
  case round =>
    obtain ⟨c, s, q, rfl, rfl, rfl, c1, c2, s1, s2, p1, p2, HM⟩ := hrel
    by_cases hq : q ≤ s
    · by_cases hr : s % q = 0
      · have hr' : (s % q != 0) = false := by simp [hr]
        have HT := Lib.hid (md_take (c := c) p1 hq s2 hr)
        obtain ⟨d1, d2, d3, d4, d5, d6⟩ := cnt_facts (c := c) p1 (by omega) c1
        clear hr
        go_wp2
        go_loop [7] (fun r => ∃ t : Int, r = (.int .i64 t) ∧ 1 ≤ t ∧ t ≤ 1000 ∧ Hid (strip 1000 q t = strip 1000 q s)) (fun r => (intOf r).toNat)
        case atStart => exact ⟨_, rfl, s1, s2, Lib.hid rfl⟩
        case round =>
          obtain ⟨t, rfl, t1, t2, HS⟩ := hrel
          by_cases ht : t % q = 0
          · have ht' : (t % q == 0) = true := by simp [ht]
            obtain ⟨f1, f2⟩ := div_facts p1 t1 ht
            have HU := Lib.hid (strip_step p1 t1 t2 ht)
            clear ht
            go_wp2
            go_round
            case rel => exact ⟨_, rfl, f1, by omega, Lib.hid (HU.out.trans HS.out)⟩
            case measure => simp [intOf]; omega
          · have ht' : (t % q == 0) = false := by simp [ht]
            have HU := Lib.hid (strip_stop (p := q) ht)
            clear ht
            go_wp2
            go_round
            case rel => exact ⟨c / (q * q) * (q * q - 1), t, q + 1, rfl, rfl, rfl, d5, by omega, t1, t2, by omega, by omega, Lib.hid (by rw [← HU.out, HS.out]; exact HT.out.trans HM.out)⟩
            case measure => simp [intOf]; omega
      · have hr' : (s % q != 0) = true := by simp [hr]
        have HT := Lib.hid (md_skip (c := c) p1 hq s2 hr)
        clear hr
        go_wp2
        go_round
        case rel => exact ⟨_, _, _, rfl, rfl, rfl, c1, c2, s1, s2, by omega, by omega, Lib.hid (HT.out.trans HM.out)⟩
        case measure => simp [intOf]; omega
    · have HE := Lib.hid (md_done (f := (1001 - q).toNat) (c := c) (Int.not_le.1 hq))
      go_wp2
      go_ret2
      exact ⟨ret_int2 (HE.out.symm.trans HM.out), own_refl _⟩
theorem Idx_both (f n : Int) : ∃ r k : Int,
    (∀ w : World, Calls Tryd.prog 78 #[(.int .i64 f), (.int .i64 n)] w fun e w' => e = .returned (.tuple #[(.int .i64 r), (.int .i64 k)]) ∧ Below w.heap.size w w') ∧
    (∀ w : World, Calls Tryd.prog 33 #[(.int .i64 f), (.int .i64 n)] w fun e w' => e = .returned (.tuple #[(.int .i64 r), (.int .i64 k)]) ∧ Below w.heap.size w w') := by
  rcases h : (inR f 0 2 && inR n 1 1000) with _ | _
  · exact ⟨_, _, specIdx_no f n h, implIdx_no f n h⟩
  have h' : (0 ≤ f ∧ f ≤ 2) ∧ (1 ≤ n ∧ n ≤ 1000) := by simpa [inR] using h
  obtain ⟨⟨f0, f2⟩, n1, n2⟩ := h'
  obtain ⟨N, rfl⟩ : ∃ N : Nat, n = (N : Int) := ⟨n.toNat, by omega⟩
  rcases (show f = 0 ∨ f = 1 ∨ f = 2 by omega) with rfl | rfl | rfl
  · exact ⟨_, _, specIdx_0 N n1 n2, by rw [idx_zero (by omega) (by omega)]; exact implIdx_0 N n1 n2⟩
  · exact ⟨_, _, specIdx_1 N n1 n2, by rw [idx_one (by omega) (by omega)]; exact implIdx_1 N n1 n2⟩
  · exact ⟨_, _, specIdx_2 N n1 n2, implIdx_2 N n1 n2⟩
end Go.Proofs.YtdcomnnpnhinfaaDoor
