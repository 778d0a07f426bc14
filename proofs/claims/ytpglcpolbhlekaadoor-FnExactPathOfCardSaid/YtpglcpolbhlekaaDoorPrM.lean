/- The runs of a path: mathematics. -/
import Derived.Test.YtpglcpolbhlekaaDoorCf
import Derived.Test.YtpglcpolbhlekaaDoorCfS
import Derived.Test.YtpglcpolbhlekaaDoorMorI
namespace Go.Proofs.YtpglcpolbhlekaaDoor
open Go.ChangeShapes Go.WideShapes Go.ChangeAt Go.RowKit

/-- the last number less one -/
def decL : List Int → List Int
  | [] => []
  | [x] => [x - 1]
  | x :: y :: r => x :: decL (y :: r)
theorem decL_len : ∀ xs : List Int, (decL xs).length = xs.length
  | [] => rfl
  | [_] => rfl
  | x :: y :: r => by simp [decL, decL_len (y :: r)]
theorem decL_set : ∀ (xs : List Int), 0 < xs.length → decL xs = xs.set (xs.length - 1) (xs.getD (xs.length - 1) 0 - 1)
  | [x], _ => rfl
  | x :: y :: r, _ => by
    rw [decL, decL_set (y :: r) (by simp)]
    simp
/-- The column of a list of runs. -/
def vcol : Nat → List Int → Int × Int
  | _, [] => (1, 1)
  | i, x :: r => if i % 2 = 1 then ((vcol (i + 1) r).1, x * (vcol (i + 1) r).1 + (vcol (i + 1) r).2) else ((vcol (i + 1) r).1 + x * (vcol (i + 1) r).2, (vcol (i + 1) r).2)
/-- numbers at least 0 -/
structure Nn (m : Mat) : Prop where
  a : 0 ≤ m.a
  b : 0 ≤ m.b
  c : 0 ≤ m.c
  d : 0 ≤ m.d
  e : m.a * m.d - m.b * m.c = 1
theorem vcol_pos (xs : List Int) : ∀ i, okFrom i xs = true → 1 ≤ (vcol i xs).1 ∧ 1 ≤ (vcol i xs).2 := by
  induction xs with
  | nil => intro i _; simp [vcol]
  | cons x r ih =>
    intro i h
    simp only [okFrom, Bool.and_eq_true] at h
    obtain ⟨h1, h2⟩ := ih (i + 1) h.2
    have hx := (of_decide_eq_true h.1).1
    unfold vcol
    have e1 := Int.mul_nonneg hx (show 0 ≤ (vcol (i + 1) r).1 by omega)
    have e2 := Int.mul_nonneg hx (show 0 ≤ (vcol (i + 1) r).2 by omega)
    split <;> constructor <;> simp only [] <;> omega
theorem prod_vcol (B : Int) (hB : B ≤ 1000000000) (xs : List Int) : ∀ (i : Nat) (m : Mat), okFrom i xs = true → Nn m → m.a * (vcol i xs).1 + m.b * (vcol i xs).2 ≤ B → m.c * (vcol i xs).1 + m.d * (vcol i xs).2 ≤ B →
    ∃ r, prod m (runMats i xs) = some r ∧ Nn r ∧ r.a + r.b = m.a * (vcol i xs).1 + m.b * (vcol i xs).2 ∧ r.c + r.d = m.c * (vcol i xs).1 + m.d * (vcol i xs).2 := by
  induction xs with
  | nil => intro i m _ h _ _; exact ⟨m, rfl, h, by simp [vcol], by simp [vcol]⟩
  | cons x r ih =>
    intro i m ho hm h1 h2
    simp only [okFrom, Bool.and_eq_true] at ho
    obtain ⟨u1, u2⟩ := vcol_pos r (i + 1) ho.2
    have hx := (of_decide_eq_true ho.1).1
    obtain ⟨m0, m1, m2, m3, m4⟩ := hm
    rw [vcol] at h1 h2 ⊢
    rw [runMats]
    by_cases hi : i % 2 = 1
    · simp only [if_pos hi] at h1 h2 ⊢
      have e : m.mul ⟨1, 0, x, 1⟩ = ⟨m.a + m.b * x, m.b, m.c + m.d * x, m.d⟩ := by simp [Mat.mul]
      have g1 := Int.mul_nonneg m1 hx
      have g2 := Int.mul_nonneg m3 hx
      have hN : Nn ⟨m.a + m.b * x, m.b, m.c + m.d * x, m.d⟩ := ⟨by simp only; omega, m1, by simp only; omega, m3, by simp only; grind⟩
      have q1 : (m.a + m.b * x) * (vcol (i + 1) r).1 + m.b * (vcol (i + 1) r).2 = m.a * (vcol (i + 1) r).1 + m.b * (x * (vcol (i + 1) r).1 + (vcol (i + 1) r).2) := by grind
      have q2 : (m.c + m.d * x) * (vcol (i + 1) r).1 + m.d * (vcol (i + 1) r).2 = m.c * (vcol (i + 1) r).1 + m.d * (x * (vcol (i + 1) r).1 + (vcol (i + 1) r).2) := by grind
      have hk : (⟨m.a + m.b * x, m.b, m.c + m.d * x, m.d⟩ : Mat).ok = true := by
        refine (allW4 _ _ _ _).2 ?_
        have k1 : m.a + m.b * x ≤ (m.a + m.b * x) * (vcol (i + 1) r).1 := by have := Int.mul_le_mul_of_nonneg_left u1 (show 0 ≤ m.a + m.b * x by omega); omega
        have k2 : m.b ≤ m.b * (vcol (i + 1) r).2 := by have := Int.mul_le_mul_of_nonneg_left u2 m1; omega
        have k3 : m.c + m.d * x ≤ (m.c + m.d * x) * (vcol (i + 1) r).1 := by have := Int.mul_le_mul_of_nonneg_left u1 (show 0 ≤ m.c + m.d * x by omega); omega
        have k4 : m.d ≤ m.d * (vcol (i + 1) r).2 := by have := Int.mul_le_mul_of_nonneg_left u2 m3; omega
        unfold Ent
        simp only
        omega
      obtain ⟨z, z1, z2, z3, z4⟩ := ih (i + 1) _ ho.2 hN (by simp only; omega) (by simp only; omega)
      refine ⟨z, ?_, z2, by rw [z3]; simp only; omega, by rw [z4]; simp only; omega⟩
      rw [prod, e, hk]
      exact z1
    · simp only [if_neg hi] at h1 h2 ⊢
      have e : m.mul ⟨1, x, 0, 1⟩ = ⟨m.a, m.a * x + m.b, m.c, m.c * x + m.d⟩ := by simp [Mat.mul]
      have g1 := Int.mul_nonneg m0 hx
      have g2 := Int.mul_nonneg m2 hx
      have hN : Nn ⟨m.a, m.a * x + m.b, m.c, m.c * x + m.d⟩ := ⟨m0, by simp only; omega, m2, by simp only; omega, by simp only; grind⟩
      have q1 : m.a * (vcol (i + 1) r).1 + (m.a * x + m.b) * (vcol (i + 1) r).2 = m.a * ((vcol (i + 1) r).1 + x * (vcol (i + 1) r).2) + m.b * (vcol (i + 1) r).2 := by grind
      have q2 : m.c * (vcol (i + 1) r).1 + (m.c * x + m.d) * (vcol (i + 1) r).2 = m.c * ((vcol (i + 1) r).1 + x * (vcol (i + 1) r).2) + m.d * (vcol (i + 1) r).2 := by grind
      have hk : (⟨m.a, m.a * x + m.b, m.c, m.c * x + m.d⟩ : Mat).ok = true := by
        refine (allW4 _ _ _ _).2 ?_
        have k1 : m.a * x + m.b ≤ (m.a * x + m.b) * (vcol (i + 1) r).2 := by have := Int.mul_le_mul_of_nonneg_left u2 (show 0 ≤ m.a * x + m.b by omega); omega
        have k2 : m.a ≤ m.a * (vcol (i + 1) r).1 := by have := Int.mul_le_mul_of_nonneg_left u1 m0; omega
        have k3 : m.c * x + m.d ≤ (m.c * x + m.d) * (vcol (i + 1) r).2 := by have := Int.mul_le_mul_of_nonneg_left u2 (show 0 ≤ m.c * x + m.d by omega); omega
        have k4 : m.c ≤ m.c * (vcol (i + 1) r).1 := by have := Int.mul_le_mul_of_nonneg_left u1 m2; omega
        unfold Ent
        simp only
        omega
      obtain ⟨z, z1, z2, z3, z4⟩ := ih (i + 1) _ ho.2 hN (by simp only; omega) (by simp only; omega)
      refine ⟨z, ?_, z2, by rw [z3]; simp only; omega, by rw [z4]; simp only; omega⟩
      rw [prod, e, hk]
      exact z1
/-- The runs of a fraction lead to it, at either side; and they are runs. -/
theorem cf_runs : ∀ (f : Nat) (p q : Int), 0 < q → q.natAbs ≤ f → 0 < p → p ≤ 1000000000 → q ≤ 1000000000 → Int.gcd p q = 1 → ¬ (p = 1 ∧ q = 1) → ∀ i, (i = 0 ∨ q < p) →
    okFrom i (decL (cfL f p q)) = true ∧ vcol i (decL (cfL f p q)) = (if i % 2 = 1 then (q, p) else (p, q)) ∧ 0 < (cfL f p q).length := by
  intro f
  induction f with
  | zero => intro p q h0 hf; omega
  | succ f ih =>
    intro p q h0 hf hp hpb hqb hg hne i hi
    have e0 : cfL (f + 1) p q = p / q :: cfL f q (p - p / q * q) := by rw [cfL, if_neg (by omega), fl_pos h0]
    have em := Int.mul_ediv_add_emod p q
    rw [Int.mul_comm] at em
    have r1 := Int.emod_nonneg p (show q ≠ 0 by omega)
    have r2 := Int.emod_lt_of_pos p h0
    have er : p - p / q * q = p % q := by omega
    have en : 0 ≤ p / q := Int.ediv_nonneg (Int.le_of_lt hp) (by omega)
    have en2 : p / q ≤ p := Int.ediv_le_self _ (Int.le_of_lt hp)
    have hn1 : i = 0 ∨ p / q ≠ 0 := by
      rcases hi with h | h
      · exact .inl h
      · refine .inr fun hz => ?_
        rw [hz] at em; omega
    rw [er] at e0
    rw [e0]
    generalize hr : p % q = r at *
    generalize hn : p / q = n at *
    have hgr : Int.gcd q r = 1 := by
      have : p = q * n + r := by rw [Int.mul_comm]; omega
      rw [this, Int.gcd_comm] at hg
      simpa using hg
    rcases (show r = 0 ∨ 0 < r by omega) with h | h
    · subst h
      have hq1 : q = 1 := by rw [Int.gcd_zero_right] at hgr; omega
      subst hq1
      rw [cf_zero]
      have hp2 : n = p := by omega
      subst hp2
      refine ⟨?_, ?_, by simp⟩
      · simp only [decL, okFrom, Bool.and_true, okRun]
        refine decide_eq_true ⟨?_, by omega, ?_⟩ <;> omega
      · simp only [decL, vcol]
        split <;> simp <;> omega
    · obtain ⟨h1, h2, h3⟩ := ih q r h (by omega) (by omega) hqb (by omega) hgr (by omega) (i + 1) (.inr r2)
      obtain ⟨y, ys, hy⟩ : ∃ y ys, cfL f q r = y :: ys := by
        cases hc : cfL f q r with
        | nil => rw [hc] at h3; simp at h3
        | cons y ys => exact ⟨y, ys, rfl⟩
      rw [hy] at h1 h2 ⊢
      refine ⟨?_, ?_, by simp⟩
      · rw [decL, okFrom, h1, Bool.and_true]
        exact decide_eq_true ⟨by omega, by omega, hn1⟩
      · rw [decL, vcol, h2]
        by_cases h5 : i % 2 = 1
        · have h6 : ¬ (i + 1) % 2 = 1 := by omega
          simp only [if_pos h5, if_neg h6]
          rw [Prod.mk.injEq]; exact ⟨rfl, em⟩
        · have h6 : (i + 1) % 2 = 1 := by omega
          simp only [if_neg h5, if_pos h6]
          rw [Prod.mk.injEq]; exact ⟨by omega, rfl⟩
/-- Two matrices with numbers at least 0 and the same sums of columns are one. -/
theorem nn_unique {m n : Mat} (hm : Nn m) (hn : Nn n) (h1 : m.a + m.b = n.a + n.b) (h2 : m.c + m.d = n.c + n.d) : m = n := by
  obtain ⟨a0, b0, c0, d0, e0⟩ := hm
  obtain ⟨a1, b1, c1, d1, e1⟩ := hn
  obtain ⟨a, b, c, d⟩ := m
  obtain ⟨a', b', c', d'⟩ := n
  simp only at *
  -- d p - b q = 1 for both
  have k0 : d * (a + b) - b * (c + d) = 1 := by grind
  have k1 : d' * (a + b) - b' * (c + d) = 1 := by rw [h1, h2]; grind
  have k2 : (d - d') * (a + b) = (b - b') * (c + d) := by grind
  have hq : (c + d) ∣ (d - d') := by
    refine ⟨(d - d') * (d * a + d * b - b * (c + d)) / 1 * 0 + ((b - b') * d - (d - d') * b), ?_⟩
    have : (c + d) * ((b - b') * d - (d - d') * b) = (d - d') * (d * (a + b) - b * (c + d)) := by grind
    rw [k0] at this
    grind
  obtain ⟨t, ht⟩ := hq
  have hpos : 0 < c + d := by
    rcases Int.lt_or_le 0 (c + d) with h | h
    · exact h
    · have z1 : c = 0 := by omega
      have z2 : d = 0 := by omega
      subst z1 z2; simp at e0
  have hd' : d' ≤ c + d := by omega
  have t1 : t ≤ 1 := by
    rcases Int.lt_or_le t 2 with h | h
    · omega
    · have := Int.mul_le_mul_of_nonneg_left h (show 0 ≤ c + d by omega); omega
  have t2 : -1 ≤ t := by
    rcases Int.lt_or_le t (-1) with h | h
    · have := Int.mul_le_mul_of_nonneg_left (show t ≤ -2 by omega) (show 0 ≤ c + d by omega); omega
    · omega
  have hdd : d = d' := by
    rcases (show t = -1 ∨ t = 0 ∨ t = 1 by omega) with h | h | h
    · subst h
      have z1 : d = 0 := by omega
      subst z1
      have := Int.mul_nonneg b0 c0
      omega
    · subst h; omega
    · subst h
      have z1 : d' = 0 := by omega
      subst z1
      have := Int.mul_nonneg b1 c1
      omega
  have hbb : b = b' := by
    have : (b - b') * (c + d) = 0 := by rw [← k2, hdd]; simp
    rcases Int.mul_eq_zero.1 this with h | h
    · omega
    · omega
  subst hdd hbb
  have : a = a' := by omega
  have : c = c' := by omega
  subst_vars
  rfl
end Go.Proofs.YtpglcpolbhlekaaDoor
