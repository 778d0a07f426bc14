/- The fraction that a matrix keeps: mathematics alone. -/
import Derived.Test.YtpmifhjbngocmaaDoorLow
namespace Go.Proofs.YtpmifhjbngocmaaDoor
open Go.ChangeShapes Go.WideShapes Go.ChangeAt Go.RowKit

theorem dv_scale {p q k : Int} (hk : k ≠ 0) (h : ¬ (p = 0 ∧ q = 0)) : dv (k * p) (k * q) = k * dv p q := by
  have hg : Int.gcd (k * p) (k * q) = k.natAbs * Int.gcd p q := Int.gcd_mul_left k p q
  have hz : ∀ x : Int, k * x = 0 ↔ x = 0 := fun x => by rw [Int.mul_eq_zero]; omega
  unfold dv
  rw [hg, Int.natCast_mul]
  rcases Int.lt_or_lt_of_ne hk with hk | hk
  · have hs : ∀ x : Int, k * x < 0 ↔ 0 < x := fun x => by
      constructor
      · intro hx
        rcases Int.lt_or_le 0 x with h | h
        · exact h
        · have := Int.mul_nonneg_of_nonpos_of_nonpos (Int.le_of_lt hk) h; omega
      · intro hx; exact Int.mul_neg_of_neg_of_pos hk hx
    have hka : (k.natAbs : Int) = -k := by omega
    have e1 := hs q
    have e2 := hs p
    have e3 := hz q
    rw [hka]
    by_cases c : q < 0 ∨ (q = 0 ∧ p < 0)
    · rw [if_pos c, if_neg (by rw [e1, e2, e3]; omega)]; grind
    · rw [if_neg c, if_pos (by rw [e1, e2, e3]; omega)]; grind
  · have hs : ∀ x : Int, k * x < 0 ↔ x < 0 := fun x => by
      constructor
      · intro hx
        rcases Int.lt_or_le x 0 with h | h
        · exact h
        · have := Int.mul_nonneg (Int.le_of_lt hk) h; omega
      · intro hx; exact Int.mul_neg_of_pos_of_neg hk hx
    have hka : (k.natAbs : Int) = k := by omega
    have e1 := hs q
    have e2 := hs p
    have e3 := hz q
    rw [hka]
    by_cases c : q < 0 ∨ (q = 0 ∧ p < 0)
    · rw [if_pos c, if_pos (by rw [e1, e2, e3]; exact c)]; grind
    · rw [if_neg c, if_neg (by rw [e1, e2, e3]; exact c)]
theorem tdiv_scale {k x d : Int} (hk : k ≠ 0) : (k * x).tdiv (k * d) = x.tdiv d := by
  rcases Int.lt_or_lt_of_ne hk with hk | hk
  · have h := Int.mul_tdiv_mul_of_pos (a := -k) (-x) (-d) (by omega)
    rw [Int.neg_mul_neg, Int.neg_mul_neg, Int.neg_tdiv_neg] at h
    exact h
  · exact Int.mul_tdiv_mul_of_pos _ _ hk
theorem low_scale {p q k : Int} (hk : k ≠ 0) (h : ¬ (p = 0 ∧ q = 0)) : lowP (k * p) (k * q) = lowP p q ∧ lowQ (k * p) (k * q) = lowQ p q := by
  unfold lowP lowQ
  rw [dv_scale hk h, tdiv_scale hk, tdiv_scale hk]
  exact ⟨rfl, rfl⟩
theorem low_same {p q p' q' k k' : Int} (hk : k ≠ 0) (hk' : k' ≠ 0) (h : ¬ (p = 0 ∧ q = 0)) (h' : ¬ (p' = 0 ∧ q' = 0)) (e1 : k * p = k' * p') (e2 : k * q = k' * q') :
    lowP p q = lowP p' q' ∧ lowQ p q = lowQ p' q' := by
  obtain ⟨a1, a2⟩ := low_scale hk h
  obtain ⟨b1, b2⟩ := low_scale hk' h'
  rw [← a1, ← a2, ← b1, ← b2, e1, e2]
  exact ⟨rfl, rfl⟩

theorem half {a d : Int} (ht : (a + d).natAbs = 2) : (a + d = 2 ∧ (a + d).tdiv 2 = 1) ∨ (a + d = -2 ∧ (a + d).tdiv 2 = -1) := by
  rcases (show a + d = 2 ∨ a + d = -2 by omega) with h | h
  · exact .inl ⟨h, by rw [h]; rfl⟩
  · exact .inr ⟨h, by rw [h]; rfl⟩
theorem kept_b {a b c d s : Int} (hd : a * d - b * c = 1) (hs : (a + d = 2 ∧ s = 1) ∨ (a + d = -2 ∧ s = -1)) (hb : b ≠ 0) (hc : c ≠ 0) :
    lowP b (s - a) = lowP (a - d) (2 * c) ∧ lowQ b (s - a) = lowQ (a - d) (2 * c) := by
  have hx : (s - a) * (s - a) = -(b * c) := by rcases hs with ⟨h, rfl⟩ | ⟨h, rfl⟩ <;> grind
  have hbc : b * c ≠ 0 := Int.mul_ne_zero hb hc
  have hx0 : s - a ≠ 0 := by intro h; rw [h] at hx; omega
  refine low_same (k := 2 * c) (k' := s - a) (by omega) hx0 (by omega) (by omega) ?_ ?_
  · rcases hs with ⟨h, rfl⟩ | ⟨h, rfl⟩ <;> grind
  · grind
theorem kept_0 {a c d s : Int} (hd : a * d = 1) (hs : (a + d = 2 ∧ s = 1) ∨ (a + d = -2 ∧ s = -1)) (hc : c ≠ 0) :
    lowP (s - d) c = lowP (a - d) (2 * c) ∧ lowQ (s - d) c = lowQ (a - d) (2 * c) := by
  have hx : (s - a) * (s - a) = 0 := by rcases hs with ⟨h, rfl⟩ | ⟨h, rfl⟩ <;> grind
  have hx0 : s - a = 0 := by rcases Int.mul_eq_zero.1 hx with h | h <;> exact h
  refine low_same (k := 2) (k' := 1) (by omega) (by omega) (by omega) (by omega) ?_ ?_
  · omega
  · omega
theorem kept_inf {a b d s : Int} (hd : a * d = 1) (hs : (a + d = 2 ∧ s = 1) ∨ (a + d = -2 ∧ s = -1)) (hb : b ≠ 0) :
    lowP b (s - a) = 1 ∧ lowQ b (s - a) = 0 := by
  have hx : (s - a) * (s - a) = 0 := by rcases hs with ⟨h, rfl⟩ | ⟨h, rfl⟩ <;> grind
  have hx0 : s - a = 0 := by rcases Int.mul_eq_zero.1 hx with h | h <;> exact h
  obtain ⟨h1, h2⟩ := low_scale (p := 1) (q := 0) hb (by omega)
  rw [hx0]
  simp only [Int.mul_one, Int.mul_zero] at h1 h2
  rw [h1, h2]
  exact ⟨by decide, by decide⟩
end Go.Proofs.YtpmifhjbngocmaaDoor
