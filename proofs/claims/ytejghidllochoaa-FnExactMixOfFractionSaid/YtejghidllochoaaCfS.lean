/- Continued fractions are short: mathematics. -/
import Derived.Test.YtejghidllochoaaCf
namespace Go.Proofs.Ytejghidllochoaa
open Go.ChangeShapes Go.WideShapes Go.ChangeAt Go.RowKit

theorem cf_short : ∀ (k f : Nat) (p q : Int), 0 ≤ q → q < 2 ^ k → (cfL f p q).length ≤ 2 * k := by
  intro k
  induction k with
  | zero => intro f p q h0 h; have : q = 0 := by simp at h; omega
            rw [this, cf_zero]; simp
  | succ k ih =>
    intro f p q h0 h
    rcases (show q = 0 ∨ 0 < q by omega) with h1 | h1
    · rw [h1, cf_zero]; simp
    cases f with
    | zero => simp [cfL]
    | succ f =>
      rw [cfL, if_neg (by omega), fl_pos h1]
      have em := Int.mul_ediv_add_emod p q
      rw [Int.mul_comm] at em
      have r1 := Int.emod_nonneg p (show q ≠ 0 by omega)
      have r2 := Int.emod_lt_of_pos p h1
      rw [show p - p / q * q = p % q by omega]
      generalize p % q = r at *
      rcases (show r = 0 ∨ 0 < r by omega) with h2 | h2
      · rw [h2, cf_zero]; simp; omega
      cases f with
      | zero => simp [cfL]; omega
      | succ f =>
        rw [cfL, if_neg (by omega), fl_pos h2]
        have em' := Int.mul_ediv_add_emod q r
        rw [Int.mul_comm] at em'
        have s1 := Int.emod_nonneg q (show r ≠ 0 by omega)
        have s2 := Int.emod_lt_of_pos q h2
        rw [show q - q / r * r = q % r by omega]
        have hq1 : 1 ≤ q / r := by rw [Int.le_ediv_iff_mul_le h2]; omega
        have hm : r ≤ q / r * r := by have := Int.mul_le_mul_of_nonneg_right hq1 (show 0 ≤ r by omega); omega
        have hb : q % r < 2 ^ k := by rw [Int.pow_succ] at h; omega
        have := ih f r (q % r) s1 hb
        simp only [List.length_cons]
        omega
end Go.Proofs.Ytejghidllochoaa
