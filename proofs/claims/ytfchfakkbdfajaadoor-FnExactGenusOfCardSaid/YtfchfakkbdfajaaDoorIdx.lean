/- IndexOf: contracts of both sides. -/
import Derived.Test.YtfchfakkbdfajaaDoorIdxM
import Derived.Test.YtfchfakkbdfajaaDoorMd
import Derived.Test.YtfchfakkbdfajaaDoorMem
namespace Go.Proofs.YtfchfakkbdfajaaDoor
open Go.ChangeShapes Go.WideShapes Go.ChangeAt Go.RowKit

theorem cop_posI (n : Int) : ∀ k : Nat, 1 ≤ (cop n (k + 1)).length
  | 0 => by simp [cop]
  | k + 1 => by
    have := cop_posI n k
    rw [cop]
    split
    · simp
    · exact this
theorem implIdx_no (f n : Int) (h : (inR f 0 2 && inR n 1 1000) = false) (w : World) :
    Calls Tryd.prog 36 #[(.int .i64 f), (.int .i64 n)] w fun e w' => e = .returned (.tuple #[(.int .i64 0), (.int .i64 2)]) ∧ Below w.heap.size w w' := by
  by_cases hn : 1 ≤ n ∧ n ≤ 1000
  · have hf : Hid (inR f 0 2 = false) := Lib.hid (by
      have : inR n 1 1000 = true := decide_eq_true hn
      rw [this] at h
      simpa using h)
    obtain ⟨m, hm⟩ : ∃ m, md 999 2 (n * n * n) n = m := ⟨_, rfl⟩
    have HC := Lib.hid (fun w => implCount_yes n hn.1 hn.2 w)
    rw [hm] at HC
    clear h hm hn
    go_enter Tryd.func36, Tryd.ntmps36
    go_wp2_with fail
    refine (HC.out _).mono ?_
    rintro e w1 ⟨rfl, rfl⟩
    go_wp2_with fail
    refine (isFamily_is false _ hf.out _).mono ?_
    rintro e w1 ⟨rfl, rfl⟩
    go_wp2
    go_ret2
    exact ⟨rfl, own_refl _⟩
  · have HC := Lib.hid (fun w => implCount_no n hn w)
    clear h hn
    go_enter Tryd.func36, Tryd.ntmps36
    go_wp2_with fail
    refine (HC.out _).mono ?_
    rintro e w1 ⟨rfl, rfl⟩
    go_wp2
    go_ret2
    exact ⟨rfl, own_refl _⟩
set_option maxHeartbeats 1000000 in
theorem implIdx_0 (n : Int) (h1 : 1 ≤ n) (h2 : n ≤ 1000) (w : World) :
    Calls Tryd.prog 36 #[(.int .i64 0), (.int .i64 n)] w fun e w' => e = .returned (.tuple #[(.int .i64 (md 999 2 (n * n * n) n / (n * ((cop n n.toNat).length : Int)))), (.int .i64 0)]) ∧ Below w.heap.size w w' := by
  obtain ⟨q1, q2, q3, q4⟩ := cube_facts h1 h2
  obtain ⟨m1, m2⟩ := md_bd 999 2 (n * n * n) n (by omega) (by omega) h2 h1
  have HC := Lib.hid (fun w => implCount_yes n h1 h2 w)
  have HU := Lib.hid (fun w => countUnits_any n n.toNat (by omega) (by omega) w)
  obtain ⟨u, hu⟩ : ∃ u : Int, ((cop n n.toNat).length : Int) = u := ⟨_, rfl⟩
  have u1 : 1 ≤ u ∧ u ≤ 1000 := by
    have a := cop_len n n.toNat
    have b := cop_posI n (n.toNat - 1)
    rw [show n.toNat - 1 + 1 = n.toNat by omega] at b
    omega
  obtain ⟨m, hm⟩ : ∃ m, md 999 2 (n * n * n) n = m := ⟨_, rfl⟩
  rw [hm] at m1 m2 HC ⊢
  rw [hu] at HU ⊢
  have z1 : 1 * 1 ≤ n * u := Int.mul_le_mul h1 u1.1 (by omega) (by omega)
  have z2 : n * u ≤ 1000 * 1000 := Int.mul_le_mul h2 u1.2 (by omega) (by omega)
  have d1 : 0 ≤ m / (n * u) := Int.ediv_nonneg m1 (by omega)
  have d2 : m / (n * u) ≤ m := Int.ediv_le_self _ m1
  obtain ⟨z, hz⟩ : ∃ z : Int, n * u = z := ⟨_, rfl⟩
  rw [hz] at z1 z2 d1 d2
  have HR : Hid (m / (n * u) = m / z) := Lib.hid (by rw [hz])
  obtain ⟨_, _⟩ := u1
  have z0 : m ≤ 1000000000 := by omega
  clear q1 q2 q3 q4 m2 hm hu
  go_enter Tryd.func36, Tryd.ntmps36
  go_wp2_with fail
  refine (HC.out _).mono ?_
  rintro e w1 ⟨rfl, rfl⟩
  go_wp2_with fail
  refine (isFamily_is true _ rfl _).mono ?_
  rintro e w1 ⟨rfl, rfl⟩
  go_wp2_with fail
  refine (HU.out _).mono ?_
  rintro e w1 ⟨rfl, hb1⟩
  go_wp2
  go_ret2
  exact ⟨ret_int2 HR.out.symm, by repeat (first | with_reducible exact own_refl _ | with_reducible assumption | with_reducible apply own_alloc | with_reducible apply own_drewN | with_reducible apply own_drew | ((with_reducible refine own_setCell ?_ ?_ _); rotate_left; focus (first | (simp; done) | (simp; omega))) | (with_reducible (refine own_trans ?_ (by assumption))))⟩
set_option maxHeartbeats 1000000 in
theorem implIdx_1 (n : Int) (h1 : 1 ≤ n) (h2 : n ≤ 1000) (w : World) :
    Calls Tryd.prog 36 #[(.int .i64 1), (.int .i64 n)] w fun e w' => e = .returned (.tuple #[(.int .i64 (md 999 2 (n * n * n) n / n)), (.int .i64 0)]) ∧ Below w.heap.size w w' := by
  obtain ⟨q1, q2, q3, q4⟩ := cube_facts h1 h2
  obtain ⟨m1, m2⟩ := md_bd 999 2 (n * n * n) n (by omega) (by omega) h2 h1
  have HC := Lib.hid (fun w => implCount_yes n h1 h2 w)
  have HU := Lib.hid (fun w => countUnits_any n n.toNat (by omega) (by omega) w)
  obtain ⟨u, hu⟩ : ∃ u : Int, ((cop n n.toNat).length : Int) = u := ⟨_, rfl⟩
  have u1 : 1 ≤ u ∧ u ≤ 1000 := by
    have a := cop_len n n.toNat
    have b := cop_posI n (n.toNat - 1)
    rw [show n.toNat - 1 + 1 = n.toNat by omega] at b
    omega
  obtain ⟨m, hm⟩ : ∃ m, md 999 2 (n * n * n) n = m := ⟨_, rfl⟩
  rw [hm] at m1 m2 HC ⊢
  rw [hu] at HU
  have d1 : 0 ≤ m / n := Int.ediv_nonneg m1 (by omega)
  have d2 : m / n ≤ m := Int.ediv_le_self _ m1
  obtain ⟨_, _⟩ := u1
  have z0 : m ≤ 1000000000 := by omega
  clear q1 q2 q3 q4 m2 hm hu
  go_enter Tryd.func36, Tryd.ntmps36
  go_wp2_with fail
  refine (HC.out _).mono ?_
  rintro e w1 ⟨rfl, rfl⟩
  go_wp2_with fail
  refine (isFamily_is true _ rfl _).mono ?_
  rintro e w1 ⟨rfl, rfl⟩
  go_wp2
  go_ret2
  exact ⟨rfl, by repeat (first | with_reducible exact own_refl _ | with_reducible assumption | with_reducible apply own_alloc | with_reducible apply own_drewN | with_reducible apply own_drew | ((with_reducible refine own_setCell ?_ ?_ _); rotate_left; focus (first | (simp; done) | (simp; omega))) | (with_reducible (refine own_trans ?_ (by assumption))))⟩
set_option maxHeartbeats 1000000 in
theorem implIdx_2 (n : Int) (h1 : 1 ≤ n) (h2 : n ≤ 1000) (w : World) :
    Calls Tryd.prog 36 #[(.int .i64 2), (.int .i64 n)] w fun e w' => e = .returned (.tuple #[(.int .i64 (md 999 2 (n * n * n) n)), (.int .i64 0)]) ∧ Below w.heap.size w w' := by
  obtain ⟨q1, q2, q3, q4⟩ := cube_facts h1 h2
  obtain ⟨m1, m2⟩ := md_bd 999 2 (n * n * n) n (by omega) (by omega) h2 h1
  have HC := Lib.hid (fun w => implCount_yes n h1 h2 w)
  have HU := Lib.hid (fun w => countUnits_any n n.toNat (by omega) (by omega) w)
  obtain ⟨u, hu⟩ : ∃ u : Int, ((cop n n.toNat).length : Int) = u := ⟨_, rfl⟩
  have u1 : 1 ≤ u ∧ u ≤ 1000 := by
    have a := cop_len n n.toNat
    have b := cop_posI n (n.toNat - 1)
    rw [show n.toNat - 1 + 1 = n.toNat by omega] at b
    omega
  obtain ⟨m, hm⟩ : ∃ m, md 999 2 (n * n * n) n = m := ⟨_, rfl⟩
  rw [hm] at m1 m2 HC ⊢
  rw [hu] at HU
  obtain ⟨_, _⟩ := u1
  have z0 : m ≤ 1000000000 := by omega
  clear q1 q2 q3 q4 m2 hm hu
  go_enter Tryd.func36, Tryd.ntmps36
  go_wp2_with fail
  refine (HC.out _).mono ?_
  rintro e w1 ⟨rfl, rfl⟩
  go_wp2_with fail
  refine (isFamily_is true _ rfl _).mono ?_
  rintro e w1 ⟨rfl, rfl⟩
  go_wp2
  go_ret2
  exact ⟨rfl, by repeat (first | with_reducible exact own_refl _ | with_reducible assumption | with_reducible apply own_alloc | with_reducible apply own_drewN | with_reducible apply own_drew | ((with_reducible refine own_setCell ?_ ?_ _); rotate_left; focus (first | (simp; done) | (simp; omega))) | (with_reducible (refine own_trans ?_ (by assumption))))⟩
end Go.Proofs.YtfchfakkbdfajaaDoor
