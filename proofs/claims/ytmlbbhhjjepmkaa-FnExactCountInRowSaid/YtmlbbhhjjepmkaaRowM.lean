/- Rows of neighbours: mathematics. -/
import Derived.Test.YtmlbbhhjjepmkaaA
namespace Go.Proofs.Ytmlbbhhjjepmkaa
open Go.ChangeShapes Go.WideShapes Go.ChangeAt Go.RowKit

/-- Two neighbours in the row of n. -/
structure Row (n p q r s : Int) : Prop where
  det : r * q - p * s = 1
  p0 : 0 ≤ p
  q1 : 1 ≤ q
  qn : q ≤ n
  s1 : 1 ≤ s
  sn : s ≤ n
  far : n < q + s
  pq : p ≤ q

theorem Row.start {n : Int} (h : 1 ≤ n) : Row n 0 1 1 n := ⟨by omega, by omega, by omega, by omega, by omega, by omega, by omega, by omega⟩

/-- what divides a product with a number prime to it -/
theorem dvd_next {p q r s t : Int} (h : r * q - p * s = 1) (hd : q ∣ 1 + p * t) : q ∣ t - s := by
  -- t - s = (r q - p s)(t - s), and q | p t + 1, q | p s + 1
  obtain ⟨k, hk⟩ := hd
  refine ⟨r * (t - s) - s * k + s * r, ?_⟩
  have h1 : p * t = q * k - 1 := by omega
  have h2 : p * s = r * q - 1 := by omega
  have : t - s = (r * q - p * s) * (t - s) := by rw [h]; simp
  grind
/-- No number between s and n serves: the next one of a row is the first found. -/
theorem Row.none_at {n p q r s t : Int} (h : Row n p q r s) (h1 : s < t) (h2 : t ≤ n) : (1 + p * t) % q ≠ 0 := by
  intro hm
  have hd : q ∣ t - s := dvd_next h.det (Int.dvd_of_emod_eq_zero hm)
  have := Int.le_of_dvd (by omega) hd
  have := h.far
  omega
theorem Row.here {n p q r s : Int} (h : Row n p q r s) : (1 + p * s) % q = 0 ∧ (1 + p * s) / q = r := by
  have e : 1 + p * s = r * q := by have := h.det; omega
  rw [e]
  exact ⟨Int.mul_emod_left _ _, Int.mul_ediv_cancel _ (by have := h.q1; omega)⟩
theorem Row.lt1 {n p q r s : Int} (h : Row n p q r s) (hne : ¬ (p = 1 ∧ q = 1)) : p < q := by
  have hpq := h.pq
  have hd := h.det
  rcases Int.lt_or_eq_of_le hpq with h1 | h1
  · exact h1
  · exfalso
    subst h1
    have h2 : p * (r - s) = 1 := by grind
    have h3 := Int.le_of_dvd (show (0 : Int) < 1 by omega) ⟨r - s, h2.symm⟩
    have := h.q1
    omega
theorem Row.rs {n p q r s : Int} (h : Row n p q r s) (hlt : p < q) : r ≤ s ∧ 1 ≤ r := by
  have hd := h.det
  have hq := h.q1
  have hs := h.s1
  have hp := h.p0
  constructor
  · rcases Int.lt_or_le s r with h1 | h1
    · exfalso
      have h2 : (s + 1) * q ≤ r * q := Int.mul_le_mul_of_nonneg_right (by omega) (by omega)
      have h3 : p * s ≤ (q - 1) * s := Int.mul_le_mul_of_nonneg_right (by omega) (by omega)
      grind
    · exact h1
  · rcases Int.lt_or_le r 1 with h1 | h1
    · exfalso
      have h2 : r * q ≤ 0 := Int.mul_nonpos_of_nonpos_of_nonneg (by omega) (by omega)
      have h3 : 0 ≤ p * s := Int.mul_nonneg hp (by omega)
      omega
    · exact h1
/-- One step on: the pair of the next one. -/
theorem Row.step {n p q r s : Int} (h : Row n p q r s) (hne : ¬ (p = 1 ∧ q = 1)) :
    Row n r s (((n + q) / s) * r - p) (((n + q) / s) * s - q) := by
  have hlt := h.lt1 hne
  obtain ⟨h1, h2⟩ := h.rs hlt
  have hs := h.s1
  have e := Int.mul_ediv_add_emod (n + q) s
  have e1 := Int.emod_nonneg (n + q) (show s ≠ 0 by omega)
  have e2 := Int.emod_lt_of_pos (n + q) (show 0 < s by omega)
  obtain ⟨k, hk⟩ : ∃ k, (n + q) / s = k := ⟨_, rfl⟩
  obtain ⟨m, hm⟩ : ∃ m, (n + q) % s = m := ⟨_, rfl⟩
  rw [hk, hm] at e
  rw [hm] at e1 e2
  rw [hk]
  have e3 : k * s = n + q - m := by grind
  have := h.far
  have := h.qn
  have := h.sn
  have := h.q1
  refine ⟨?_, by omega, by omega, by omega, by omega, by omega, by omega, h1⟩
  have := h.det
  grind
/-- Nothing of the row lies between two neighbours. -/
theorem Row.between {n p q r s a b : Int} (h : Row n p q r s) (hb : b ≤ n) (h1 : p * b < a * q) : r * b ≤ a * s := by
  rcases Int.lt_or_le (a * s) (r * b) with h2 | h2
  · exfalso
    have hd := h.det
    have hq := h.q1
    have hs := h.s1
    have hf := h.far
    have e : b = q * (r * b - a * s) + s * (a * q - p * b) := by
      have : b = b * (r * q - p * s) := by rw [hd]; simp
      grind
    have e1 : q * 1 ≤ q * (r * b - a * s) := Int.mul_le_mul_of_nonneg_left (by omega) (by omega)
    have e2 : s * 1 ≤ s * (a * q - p * b) := Int.mul_le_mul_of_nonneg_left (by omega) (by omega)
    omega
  · exact h2
/-- how far it is to 1/1 -/
def rowMu (n p q : Int) : Nat := ((n * n * (q - p)) / q).toNat
theorem Row.mu {n p q r s : Int} (h : Row n p q r s) (hlt : p < q) : rowMu n r s < rowMu n p q := by
  obtain ⟨h1, h2⟩ := h.rs hlt
  have hq := h.q1
  have hs := h.s1
  have hd := h.det
  have hqn := h.qn
  have hsn := h.sn
  unfold rowMu
  have hn : q * s ≤ n * n := Int.mul_le_mul hqn hsn (by omega) (by omega)
  -- n²(s - r)/s + 1 ≤ n²(q - p)/q
  obtain ⟨x, hx⟩ : ∃ x, n * n * (s - r) / s = x := ⟨_, rfl⟩
  have hx0 : 0 ≤ x := by
    rw [← hx]
    exact Int.ediv_nonneg (Int.mul_nonneg (Int.mul_nonneg (by omega) (by omega)) (by omega)) (by omega)
  have hxs : x * s ≤ n * n * (s - r) := by rw [← hx]; exact Int.ediv_mul_le _ (by omega)
  have key : x + 1 ≤ n * n * (q - p) / q := by
    rw [Int.le_ediv_iff_mul_le (by omega)]
    -- (x+1) q ≤ n n (q - p); times s
    have h3 : x * s * q ≤ n * n * (s - r) * q := Int.mul_le_mul_of_nonneg_right hxs (by omega)
    have h4 : n * n * (q - p) * s = n * n * (s - r) * q + n * n := by
      have : (q - p) * s = (s - r) * q + 1 := by grind
      grind
    have h5 : ((x + 1) * q) * s ≤ (n * n * (q - p)) * s := by
      have : ((x + 1) * q) * s = x * s * q + q * s := by grind
      omega
    exact Int.le_of_mul_le_mul_right h5 (by omega)
  omega

/-- The row behind p/q, whose next one is r/s. -/
def rowT (n : Int) : Nat → Int → Int → Int → Int → List (Int × Int)
  | 0, _, _, _, _ => []
  | f + 1, p, q, r, s => if p = 1 ∧ q = 1 then [] else (r, s) :: rowT n f r s (((n + q) / s) * r - p) (((n + q) / s) * s - q)
/-- The row of n. -/
def rowAll (n : Int) : List (Int × Int) := (0, 1) :: rowT n (rowMu n 0 1 + 1) 0 1 1 n
/-- Where the way along the row of n stands: pre is behind, p/q is here, r/s is next. -/
structure RowSt (n : Int) (pre : List (Int × Int)) (p q r s : Int) : Prop where
  row : Row n p q r s
  all : ∃ f, rowMu n p q < f ∧ rowAll n = pre ++ (p, q) :: rowT n f p q r s
theorem RowSt.start {n : Int} (h : 1 ≤ n) : RowSt n [] 0 1 1 n := ⟨Row.start h, _, Nat.lt_succ_self _, rfl⟩
theorem RowSt.step {n : Int} {pre : List (Int × Int)} {p q r s : Int} (h : RowSt n pre p q r s) (hne : ¬ (p = 1 ∧ q = 1)) :
    RowSt n (pre ++ [(p, q)]) r s (((n + q) / s) * r - p) (((n + q) / s) * s - q) := by
  obtain ⟨f, hf, hall⟩ := h.all
  have hm := h.row.mu (h.row.lt1 hne)
  obtain ⟨g, rfl⟩ : ∃ g, f = g + 1 := ⟨f - 1, by omega⟩
  refine ⟨h.row.step hne, g, by omega, ?_⟩
  rw [hall, rowT, if_neg hne]
  simp
theorem RowSt.fin {n : Int} {pre : List (Int × Int)} {p q r s : Int} (h : RowSt n pre p q r s) (he : p = 1 ∧ q = 1) : rowAll n = pre ++ [(p, q)] := by
  obtain ⟨f, hf, hall⟩ := h.all
  obtain ⟨g, rfl⟩ : ∃ g, f = g + 1 := ⟨f - 1, by omega⟩
  rw [hall, rowT, if_pos he]
theorem RowSt.pre {n : Int} {pre : List (Int × Int)} {p q r s : Int} (h : RowSt n pre p q r s) : (pre ++ [(p, q)]) <+: rowAll n := by
  obtain ⟨f, _, hall⟩ := h.all
  exact ⟨rowT n f p q r s, by rw [hall]; simp⟩
theorem rowT_len (n : Int) : ∀ (f : Nat) (p q r s : Int), (rowT n f p q r s).length ≤ f
  | 0, _, _, _, _ => by simp [rowT]
  | f + 1, p, q, r, s => by
    rw [rowT]
    split
    · simp
    · have := rowT_len n f r s (((n + q) / s) * r - p) (((n + q) / s) * s - q)
      simp; omega
theorem rowAll_len {n : Int} (h1 : 1 ≤ n) (h2 : n ≤ 20) : (rowAll n).length ≤ 402 := by
  have := rowT_len n (rowMu n 0 1 + 1) 0 1 1 n
  have hm : rowMu n 0 1 ≤ 400 := by
    unfold rowMu
    have : n * n ≤ 20 * 20 := Int.mul_le_mul h2 h2 (by omega) (by omega)
    simp; omega
  unfold rowAll
  simp; omega
end Go.Proofs.Ytmlbbhhjjepmkaa
