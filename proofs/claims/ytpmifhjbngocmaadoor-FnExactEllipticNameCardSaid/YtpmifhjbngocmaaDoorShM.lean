/- The shift: mathematics. -/
import Derived.Test.YtpmifhjbngocmaaDoorA
namespace Go.Proofs.YtpmifhjbngocmaaDoor
open Go.ChangeShapes Go.WideShapes Go.ChangeAt Go.RowKit

theorem dvd_of_sq {g x : Int} (h : g * g ∣ x * x) : g ∣ x := by
  have h1 : g.natAbs ^ 2 ∣ x.natAbs ^ 2 := by
    have := Int.natAbs_dvd_natAbs.2 h
    rw [Int.natAbs_mul, Int.natAbs_mul] at this
    simpa [Nat.pow_two] using this
  exact Int.natAbs_dvd_natAbs.1 ((Nat.pow_dvd_pow_iff (by decide)).1 h1)
theorem gcd3 {a b c d : Int} (h : a * d - b * c = 1) (ht : a + d = 2) : Int.gcd ((Int.gcd b c : Nat) : Int) (a - 1) = Int.gcd b c := by
  have hd : d = 2 - a := by omega
  subst hd
  have e : (a - 1) * (a - 1) = -(b * c) := by grind
  have hb := Int.gcd_dvd_left (a := b) (b := c)
  have hc := Int.gcd_dvd_right (a := b) (b := c)
  have h2 : ((Int.gcd b c : Nat) : Int) * (Int.gcd b c : Nat) ∣ (a - 1) * (a - 1) := by
    rw [e]; exact Int.dvd_neg.2 (Int.mul_dvd_mul hb hc)
  have h3 := dvd_of_sq h2
  have h4 := Int.natAbs_dvd_natAbs.2 h3
  show Nat.gcd (((Int.gcd b c : Nat) : Int).natAbs) (a - 1).natAbs = _
  rw [Int.natAbs_natCast] at h4 ⊢
  exact Nat.gcd_eq_left h4
theorem shift_sign {a b c d : Int} (h : a * d - b * c = 1) (ht : a + d = 2) (hk : ¬ (b = 0 ∧ c = 0)) :
    ((b < 0 ∨ 0 < c) ∧ b - c < 0) ∨ (¬ (b < 0 ∨ 0 < c) ∧ 0 < b - c) := by
  have hd : d = 2 - a := by omega
  subst hd
  have e : (a - 1) * (a - 1) = -(b * c) := by grind
  have e1 : 0 ≤ (a - 1) * (a - 1) := by
    rcases Int.le_total 0 (a - 1) with h | h
    · exact Int.mul_nonneg h h
    · exact Int.mul_nonneg_of_nonpos_of_nonpos h h
  have hbc : b * c ≤ 0 := by omega
  have f1 : ¬ (0 < b ∧ 0 < c) := fun ⟨x, y⟩ => by have := Int.mul_pos x y; omega
  have f2 : ¬ (b < 0 ∧ c < 0) := fun ⟨x, y⟩ => by have := Int.mul_pos_of_neg_of_neg x y; omega
  omega
end Go.Proofs.YtpmifhjbngocmaaDoor
