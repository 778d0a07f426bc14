/- Rows have all fractions: mathematics. -/
import Derived.Test.YtmlbbhhjjepmkaaRowM
namespace Go.Proofs.Ytmlbbhhjjepmkaa
open Go.ChangeShapes Go.WideShapes Go.ChangeAt Go.RowKit

/-- Two fractions in lowest terms that are equal by crosswise products are one. -/
theorem cross_eq {p q r s a b : Int} (hdet : r * q - p * s = 1) (hq : 1 ≤ q) (hb : 1 ≤ b) (hg : Int.gcd a b = 1) (h : p * b = a * q) : p = a ∧ q = b := by
  have h1 : q ∣ b := ⟨b * r - a * s, by
    have : b = b * (r * q - p * s) := by rw [hdet]; simp
    grind⟩
  have h2 : b ∣ q := by
    have h3 : b ∣ a * q := ⟨p, by rw [← h, Int.mul_comm]⟩
    have h4 := Int.natAbs_dvd_natAbs.2 h3
    rw [Int.natAbs_mul] at h4
    have h5 : Nat.Coprime b.natAbs a.natAbs := by unfold Nat.Coprime; rw [Nat.gcd_comm]; exact hg
    exact Int.natAbs_dvd_natAbs.1 (h5.dvd_of_dvd_mul_left h4)
  have e1 := Int.le_of_dvd (by omega) h1
  have e2 := Int.le_of_dvd (by omega) h2
  have hqb : q = b := by omega
  subst hqb
  refine ⟨?_, rfl⟩
  exact Int.eq_of_mul_eq_mul_right (by omega) h
/-- Each fraction in lowest terms that belongs there is met on the way. -/
theorem row_has {n a b : Int} (ha : 0 ≤ a) (hab : a ≤ b) (hb : 1 ≤ b) (hbn : b ≤ n) (hg : Int.gcd a b = 1) :
    ∀ (k : Nat) (pre : List (Int × Int)) (p q r s : Int), RowSt n pre p q r s → rowMu n p q ≤ k → p * b ≤ a * q → ∃ pre' r' s', RowSt n pre' a b r' s' := by
  intro k
  induction k with
  | zero =>
    intro pre p q r s h hm hle
    rcases Int.lt_or_eq_of_le hle with h1 | h1
    · have hne : ¬ (p = 1 ∧ q = 1) := by rintro ⟨rfl, rfl⟩; omega
      have := h.row.mu (h.row.lt1 hne)
      omega
    · obtain ⟨rfl, rfl⟩ := cross_eq h.row.det h.row.q1 hb hg h1
      exact ⟨_, _, _, h⟩
  | succ k ih =>
    intro pre p q r s h hm hle
    rcases Int.lt_or_eq_of_le hle with h1 | h1
    · have hne : ¬ (p = 1 ∧ q = 1) := by rintro ⟨rfl, rfl⟩; omega
      have hmu := h.row.mu (h.row.lt1 hne)
      exact ih _ _ _ _ _ (h.step hne) (by omega) (h.row.between hbn h1)
    · obtain ⟨rfl, rfl⟩ := cross_eq h.row.det h.row.q1 hb hg h1
      exact ⟨_, _, _, h⟩
theorem row_met {n a b : Int} (ha : 0 ≤ a) (hab : a ≤ b) (hb : 1 ≤ b) (hbn : b ≤ n) (hg : Int.gcd a b = 1) : ∃ pre r s, RowSt n pre a b r s :=
  row_has ha hab hb hbn hg _ [] 0 1 1 n (RowSt.start (by omega)) (Nat.le_refl _) (by omega)
theorem Row.one {n p q r s r' s' : Int} (h : Row n p q r s) (h' : Row n p q r' s') : r = r' ∧ s = s' := by
  have hs : s = s' := by
    rcases Int.lt_trichotomy s s' with h1 | h1 | h1
    · exact absurd h'.here.1 (h.none_at h1 h'.sn)
    · exact h1
    · exact absurd h.here.1 (h'.none_at h1 h.sn)
  subst hs
  refine ⟨?_, rfl⟩
  rw [← h.here.2, h'.here.2]
/-- What comes behind a fraction of the row. -/
theorem RowSt.next {n a b r s : Int} {pre : List (Int × Int)} {x : Int × Int} (h : RowSt n pre a b r s) (hx : (pre ++ [(a, b)] ++ [x]) <+: rowAll n) : ¬ (a = 1 ∧ b = 1) ∧ x = (r, s) := by
  have hne : ¬ (a = 1 ∧ b = 1) := fun h1 => by
    have := hx.length_le
    rw [h.fin h1] at this
    simp at this
  refine ⟨hne, ?_⟩
  have h2 := (h.step hne).pre
  obtain ⟨t1, h1⟩ := hx
  obtain ⟨t2, h2⟩ := h2
  rw [← h2] at h1
  simp only [List.append_assoc] at h1
  have h3 := List.append_cancel_left h1
  have h4 := List.append_cancel_left h3
  exact (List.cons.inj h4).1
end Go.Proofs.Ytmlbbhhjjepmkaa
