/- Plain numbers: how often primes divide (for CountModulo). No program is read here. -/
namespace Go.Proofs.YtdcomnnpnhinfaaDoor

/-- r without the factor p, taken out at most f times -/
def strip : Nat → Int → Int → Int
  | 0, _, r => r
  | f + 1, p, r => if r % p = 0 then strip f p (r / p) else r
/-- the number of rests, from p on -/
def md : Nat → Int → Int → Int → Int
  | 0, _, c, _ => c
  | f + 1, p, c, r => if p ≤ r then (if r % p = 0 then md f (p + 1) (c / (p * p) * (p * p - 1)) (strip 1000 p r) else md f (p + 1) c r) else c

theorem div_facts {p r : Int} (hp : 2 ≤ p) (hr : 1 ≤ r) (h : r % p = 0) : 1 ≤ r / p ∧ r / p < r := by
  have h1 := Int.emod_add_mul_ediv r p
  rw [h] at h1
  have h3 : 0 ≤ r / p := Int.ediv_nonneg (by omega) (by omega)
  have h4 : r / p ≠ 0 := by
    intro h0
    rw [h0] at h1
    simp at h1
    omega
  have h5 : 2 * (r / p) ≤ p * (r / p) := Int.mul_le_mul_of_nonneg_right hp h3
  omega
theorem strip_more {p : Int} (hp : 2 ≤ p) : ∀ (f : Nat) (r : Int), 1 ≤ r → r ≤ f → strip (f + 1) p r = strip f p r := by
  intro f
  induction f with
  | zero => intro r h1 h2; omega
  | succ f ih =>
    intro r h1 h2
    rw [strip]
    conv => rhs; rw [strip]
    by_cases h : r % p = 0
    · rw [if_pos h, if_pos h]
      obtain ⟨h3, h4⟩ := div_facts hp h1 h
      exact ih _ h3 (by omega)
    · rw [if_neg h, if_neg h]
theorem strip_step {p r : Int} (hp : 2 ≤ p) (h1 : 1 ≤ r) (h2 : r ≤ 1000) (h : r % p = 0) : strip 1000 p (r / p) = strip 1000 p r := by
  obtain ⟨h3, h4⟩ := div_facts hp h1 h
  conv => rhs; rw [show (1000 : Nat) = 999 + 1 from rfl, strip]
  rw [if_pos h]
  exact strip_more hp 999 _ h3 (by omega)
theorem strip_stop {p r : Int} (h : ¬ r % p = 0) : strip 1000 p r = r := by
  rw [show (1000 : Nat) = 999 + 1 from rfl, strip, if_neg h]
theorem cnt_facts {c p : Int} (hp : 2 ≤ p) (hp' : p ≤ 1000) (hc : 0 ≤ c) : 4 ≤ p * p ∧ p * p ≤ 1000000 ∧ 0 ≤ c / (p * p) ∧ c / (p * p) ≤ c ∧ 0 ≤ c / (p * p) * (p * p - 1) ∧ c / (p * p) * (p * p - 1) ≤ c := by
  have h1 : 2 * 2 ≤ p * p := Int.mul_le_mul hp hp (by omega) (by omega)
  have h2 : p * p ≤ 1000 * 1000 := Int.mul_le_mul hp' hp' (by omega) (by omega)
  have h3 : 0 ≤ c / (p * p) := Int.ediv_nonneg hc (by omega)
  have h4 : c / (p * p) * (p * p) ≤ c := Int.ediv_mul_le c (by omega)
  have h5 : c / (p * p) * (p * p - 1) = c / (p * p) * (p * p) - c / (p * p) := by rw [Int.mul_sub, Int.mul_one]
  have h6 : 0 ≤ c / (p * p) * (p * p - 1) := Int.mul_nonneg h3 (by omega)
  have h7 : c / (p * p) * 1 ≤ c / (p * p) * (p * p) := Int.mul_le_mul_of_nonneg_left (by omega) h3
  omega
theorem md_done {f : Nat} {p c r : Int} (h : r < p) : md f p c r = c := by
  cases f with
  | zero => rfl
  | succ f => rw [md, if_neg (by omega)]
theorem md_skip {p c r : Int} (hp : 2 ≤ p) (hp' : p ≤ r) (hr : r ≤ 1000) (h : ¬ r % p = 0) : md (1001 - (p + 1)).toNat (p + 1) c r = md (1001 - p).toNat p c r := by
  have e : (1001 - p).toNat = (1001 - (p + 1)).toNat + 1 := by omega
  conv => rhs; rw [e, md]
  rw [if_pos hp', if_neg h]
theorem md_take {p c r : Int} (hp : 2 ≤ p) (hp' : p ≤ r) (hr : r ≤ 1000) (h : r % p = 0) :
    md (1001 - (p + 1)).toNat (p + 1) (c / (p * p) * (p * p - 1)) (strip 1000 p r) = md (1001 - p).toNat p c r := by
  have e : (1001 - p).toNat = (1001 - (p + 1)).toNat + 1 := by omega
  conv => rhs; rw [e, md]
  rw [if_pos hp', if_pos h]
theorem cube_facts {n : Int} (h1 : 1 ≤ n) (h2 : n ≤ 1000) : 1 ≤ n * n ∧ n * n ≤ 1000000 ∧ 1 ≤ n * n * n ∧ n * n * n ≤ 1000000000 := by
  have h3 : 1 * 1 ≤ n * n := Int.mul_le_mul h1 h1 (by omega) (by omega)
  have h4 : n * n ≤ 1000 * 1000 := Int.mul_le_mul h2 h2 (by omega) (by omega)
  have h5 : 1 * 1 ≤ n * n * n := Int.mul_le_mul (by omega) h1 (by omega) (by omega)
  have h6 : n * n * n ≤ 1000000 * 1000 := Int.mul_le_mul (by omega) h2 (by omega) (by omega)
  omega
end Go.Proofs.YtdcomnnpnhinfaaDoor
