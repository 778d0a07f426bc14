/- The number of a coset depends on two rests but for a unit; matrices lead cosets. No program. -/
import Derived.Test.YtejghidllochoaaDoorLed
import Derived.Test.YtejghidllochoaaDoorLnX
namespace Go.Proofs.YtejghidllochoaaDoor
open Go.ChangeShapes Go.WideShapes Go.ChangeAt Go.RowKit

theorem bezN (a b : Nat) : ∃ s t : Int, s * a + t * b = (Nat.gcd a b : Int) := by
  induction a, b using Nat.gcd.induction with
  | H0 b => exact ⟨0, 1, by simp⟩
  | H1 a b ha ih =>
    obtain ⟨s, t, h⟩ := ih
    refine ⟨t - s * (b / a : Nat), s, ?_⟩
    rw [Nat.gcd_rec, ← h]
    have e : ((b % a : Nat) : Int) = b - a * (b / a : Nat) := by
      have := congrArg (fun n : Nat => (n : Int)) (Nat.div_add_mod b a)
      simp only [Int.natCast_add, Int.natCast_mul] at this
      omega
    rw [e]
    grind
theorem inv_unit {u n : Int} (h : Int.gcd u n = 1) : ∃ v, n ∣ u * v - 1 := by
  obtain ⟨s, t, h2⟩ := bezN u.natAbs n.natAbs
  have h3 : Nat.gcd u.natAbs n.natAbs = 1 := h
  rw [h3] at h2
  have hu : (u.natAbs : Int) = u ∨ (u.natAbs : Int) = -u := by omega
  have hn : (n.natAbs : Int) = n ∨ (n.natAbs : Int) = -n := by omega
  rcases hu with e | e <;> rcases hn with f | f <;> rw [e, f] at h2
  · exact ⟨s, -t, by grind⟩
  · exact ⟨s, t, by grind⟩
  · exact ⟨-s, -t, by grind⟩
  · exact ⟨-s, t, by grind⟩
theorem unit_inv {u v n : Int} (h : n ∣ u * v - 1) : Int.gcd v n = 1 := by
  have h1 : ((Int.gcd v n : Nat) : Int) ∣ v := Int.gcd_dvd_left _ _
  have h2 : ((Int.gcd v n : Nat) : Int) ∣ n := Int.gcd_dvd_right _ _
  have h4 : ((Int.gcd v n : Nat) : Int) ∣ 1 := by
    have h5 := Int.dvd_sub (Int.dvd_trans h1 (Int.dvd_mul_left u v)) (Int.dvd_trans h2 h)
    rwa [show u * v - (u * v - 1) = 1 by omega] at h5
  have := Int.eq_one_of_dvd_one (by omega) h4
  omega
theorem emod_of_dvd {n x y : Int} (h : n ∣ x - y) : x % n = y % n := by
  rw [Int.emod_eq_emod_iff_emod_sub_eq_zero]
  exact Int.emod_eq_zero_of_dvd h
theorem dvd_emod (n x : Int) : n ∣ x % n - x := by
  have := Int.mul_ediv_add_emod x n
  exact ⟨-(x / n), by rw [Int.mul_neg]; omega⟩
theorem unit_mul {u v n : Int} (hu : Int.gcd u n = 1) (hv : Int.gcd v n = 1) : Int.gcd (u * v) n = 1 := by
  have h1 : Nat.Coprime u.natAbs n.natAbs := hu
  have h2 : Nat.Coprime v.natAbs n.natAbs := hv
  show Nat.gcd (u * v).natAbs n.natAbs = 1
  rw [Int.natAbs_mul]
  exact Nat.Coprime.mul_left h1 h2
/-- the normal pair of a multiple by a unit -/
theorem nrm_same {n x y u : Int} (h1 : 1 ≤ n) (hx : 0 ≤ x ∧ x < n) (hy : 0 ≤ y ∧ y < n) (hu : Int.gcd u n = 1) : nrm n (u * x % n) (u * y % n) = nrm n x y := by
  have rx : 0 ≤ u * x % n ∧ u * x % n < n := ⟨Int.emod_nonneg _ (by omega), Int.emod_lt_of_pos _ (by omega)⟩
  have ry : 0 ≤ u * y % n ∧ u * y % n < n := ⟨Int.emod_nonneg _ (by omega), Int.emod_lt_of_pos _ (by omega)⟩
  have e : ∀ t z : Int, t * (u * z % n) % n = t * u * z % n := fun t z => by rw [Int.mul_emod, Int.emod_emod, ← Int.mul_emod, Int.mul_assoc]
  obtain ⟨t, ht, hq⟩ := nrm_unit h1 rx ry
  obtain ⟨s, hs, hp⟩ := nrm_unit h1 hx hy
  obtain ⟨v, hv⟩ := inv_unit hu
  have hvu := unit_inv hv
  have a1 := nrm_low h1 hx hy (unit_mul ht hu)
  have a2 := nrm_low h1 rx ry (unit_mul hs hvu)
  rw [e, e] at a2
  have e2 : ∀ z : Int, s * v * u * z % n = s * z % n := fun z => by
    refine emod_of_dvd ?_
    obtain ⟨q, hq⟩ := hv
    exact ⟨s * z * q, by grind⟩
  rw [e2, e2] at a2
  rw [e, e] at hq
  rw [hp] at a1 ⊢
  rw [hq] at a2 ⊢
  obtain ⟨b1, b2⟩ := lss2_anti a2 a1
  exact Prod.ext b1.symm b2.symm
theorem kOf_congr {n x y x' y' : Int} (h1 : 1 ≤ n) (hx : n ∣ x - x') (hy : n ∣ y - y') : kOf n x y = kOf n x' y' := by
  unfold kOf
  rw [rst_emod _ _ h1, rst_emod _ _ h1, rst_emod _ _ h1, rst_emod _ _ h1, emod_of_dvd hx, emod_of_dvd hy]
theorem kOf_unit {n x y u : Int} (h1 : 1 ≤ n) (hu : Int.gcd u n = 1) : kOf n (u * x) (u * y) = kOf n x y := by
  unfold kOf
  rw [rst_emod _ _ h1, rst_emod _ _ h1, rst_emod _ _ h1, rst_emod _ _ h1]
  have e : ∀ z : Int, u * z % n = u * (z % n) % n := fun z => by rw [Int.mul_emod u (z % n), Int.emod_emod, ← Int.mul_emod]
  rw [e x, e y, nrm_same h1 ⟨Int.emod_nonneg _ (by omega), Int.emod_lt_of_pos _ (by omega)⟩ ⟨Int.emod_nonneg _ (by omega), Int.emod_lt_of_pos _ (by omega)⟩ hu]
/-- A pair of the line is alike to the pair whose number it has. -/
theorem at_unit {n x y : Int} (h1 : 1 ≤ n) (hp : isP n x y = true) : ∃ u, Int.gcd u n = 1 ∧ n ∣ ((ln n).getD (kOf n x y) (0, 0)).1 - u * x ∧ n ∣ ((ln n).getD (kOf n x y) (0, 0)).2 - u * y := by
  obtain ⟨_, h2⟩ := kOf_spec h1 hp
  obtain ⟨u, hu, h3⟩ := nrm_unit h1 (rst_bd (x := x) h1) (rst_bd (x := y) h1)
  rw [h2, h3, rst_emod _ _ h1, rst_emod _ _ h1]
  have e : ∀ z : Int, n ∣ u * (z % n) % n - u * z := fun z => by
    have a := dvd_emod n (u * (z % n))
    have b := Int.dvd_mul_of_dvd_right (b := u) (dvd_emod n z)
    have := Int.dvd_add a b
    rwa [show u * (z % n) % n - u * (z % n) + u * (z % n - z) = u * (z % n) % n - u * z by rw [Int.mul_sub]; omega] at this
  exact ⟨u, hu, e x, e y⟩
/-- Where a matrix leads the coset of a pair. -/
theorem kOf_led {n x y a b c d : Int} (h1 : 1 ≤ n) (hp : isP n x y = true) :
    kOf n (((ln n).getD (kOf n x y) (0, 0)).1 * a + ((ln n).getD (kOf n x y) (0, 0)).2 * c) (((ln n).getD (kOf n x y) (0, 0)).1 * b + ((ln n).getD (kOf n x y) (0, 0)).2 * d) = kOf n (x * a + y * c) (x * b + y * d) := by
  obtain ⟨u, hu, ⟨q, hq⟩, ⟨r, hr⟩⟩ := at_unit h1 hp
  rw [← kOf_unit (x := x * a + y * c) (y := x * b + y * d) h1 hu]
  refine kOf_congr h1 ⟨q * a + r * c, ?_⟩ ⟨q * b + r * d, ?_⟩ <;> grind
end Go.Proofs.YtejghidllochoaaDoor
