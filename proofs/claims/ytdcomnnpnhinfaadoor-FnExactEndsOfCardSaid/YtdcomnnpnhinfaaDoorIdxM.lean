/- Indices: the products over primes and the count of units agree for every level up to 1000 (the kernel computes it). No program is walked here. -/
import Derived.Test.YtdcomnnpnhinfaaDoorNum
import Derived.Test.YtdcomnnpnhinfaaDoorUn
namespace Go.Proofs.YtdcomnnpnhinfaaDoor

/-- the index of the family 0, from p on -/
def mz : Nat → Int → Int → Int → Int
  | 0, _, c, _ => c
  | f + 1, p, c, r => if p ≤ r then (if r % p = 0 then mz f (p + 1) (c / p * (p + 1)) (strip 1000 p r) else mz f (p + 1) c r) else c
theorem mz_done {f : Nat} {p c r : Int} (h : r < p) : mz f p c r = c := by
  cases f with
  | zero => rfl
  | succ f => rw [mz, if_neg (by omega)]
theorem mz_skip {p c r : Int} (hp : 2 ≤ p) (hp' : p ≤ r) (hr : r ≤ 1000) (h : ¬ r % p = 0) : mz (1001 - (p + 1)).toNat (p + 1) c r = mz (1001 - p).toNat p c r := by
  have e : (1001 - p).toNat = (1001 - (p + 1)).toNat + 1 := by omega
  conv => rhs; rw [e, mz]
  rw [if_pos hp', if_neg h]
theorem mz_take {p c r : Int} (hp : 2 ≤ p) (hp' : p ≤ r) (hr : r ≤ 1000) (h : r % p = 0) :
    mz (1001 - (p + 1)).toNat (p + 1) (c / p * (p + 1)) (strip 1000 p r) = mz (1001 - p).toNat p c r := by
  have e : (1001 - p).toNat = (1001 - (p + 1)).toNat + 1 := by omega
  conv => rhs; rw [e, mz]
  rw [if_pos hp', if_pos h]
theorem strip_le {p : Int} (hp : 2 ≤ p) : ∀ (f : Nat) (r : Int), 1 ≤ r → 1 ≤ strip f p r ∧ strip f p r ≤ r
  | 0, _, h => ⟨h, Int.le_refl _⟩
  | f + 1, r, h => by
    rw [strip]
    by_cases hr : r % p = 0
    · rw [if_pos hr]
      obtain ⟨h1, h2⟩ := div_facts hp h hr
      have := strip_le hp f _ h1
      omega
    · rw [if_neg hr]
      omega
/-- numbers stay small: c times what is left is at most a million -/
theorem mz_small {c p s t : Int} (hp : 2 ≤ p) (hc : 0 ≤ c) (hs : 1 ≤ s) (hr : s % p = 0) (h : c * s ≤ 1000000) (ht : 1 ≤ t) (hts : t ≤ s / p) :
    0 ≤ c / p ∧ c / p ≤ 1000000 ∧ 0 ≤ c / p * (p + 1) ∧ c / p * (p + 1) ≤ 1000000 ∧ c / p * (p + 1) * t ≤ 1000000 := by
  have h0 : 0 ≤ c / p := Int.ediv_nonneg hc (by omega)
  have h1 : c / p * p ≤ c := Int.ediv_mul_le c (by omega)
  have h2 : s / p * p = s := Int.ediv_mul_cancel_of_emod_eq_zero hr
  have h3 : 0 ≤ c / p * (p + 1) := Int.mul_nonneg h0 (by omega)
  have h4 : p + 1 ≤ p * p := by
    have : 2 * p ≤ p * p := Int.mul_le_mul_of_nonneg_right hp (by omega)
    omega
  have h5 : c / p * (p + 1) * t ≤ c / p * (p * p) * (s / p) := Int.mul_le_mul (Int.mul_le_mul_of_nonneg_left h4 h0) hts (by omega) (Int.mul_nonneg h0 (by omega))
  have h6 : c / p * (p * p) * (s / p) = c / p * p * (s / p * p) := by grind
  have h7 : c / p * p * s ≤ c * s := Int.mul_le_mul_of_nonneg_right h1 (by omega)
  have h8 : c / p * (p + 1) * t ≤ 1000000 := by rw [h6, h2] at h5; omega
  have h9 : c / p * (p + 1) * 1 ≤ c / p * (p + 1) * t := Int.mul_le_mul_of_nonneg_left ht h3
  have h10 : c / p * 1 ≤ c / p * (p + 1) := Int.mul_le_mul_of_nonneg_left (by omega) h0
  omega

theorem beq_no {a b : Nat} (h : ¬ a = b) : Nat.beq a b = false := by
  cases e : Nat.beq a b
  · rfl
  · exact absurd (Nat.eq_of_beq_eq_true e) h
theorem ble_no {a b : Nat} (h : ¬ a ≤ b) : Nat.ble a b = false := by
  cases e : Nat.ble a b
  · rfl
  · exact absurd (Nat.le_of_ble_eq_true e) h
def stripN : Nat → Nat → Nat → Nat
  | 0, _, r => r
  | f + 1, p, r => bif Nat.beq (r % p) 0 then stripN f p (r / p) else r
def mdN : Nat → Nat → Nat → Nat → Nat
  | 0, _, c, _ => c
  | f + 1, p, c, r => bif Nat.ble p r then (bif Nat.beq (r % p) 0 then mdN f (p + 1) (c / (p * p) * (p * p - 1)) (stripN 1000 p r) else mdN f (p + 1) c r) else c
def mzN : Nat → Nat → Nat → Nat → Nat
  | 0, _, c, _ => c
  | f + 1, p, c, r => bif Nat.ble p r then (bif Nat.beq (r % p) 0 then mzN f (p + 1) (c / p * (p + 1)) (stripN 1000 p r) else mzN f (p + 1) c r) else c
def phiN (n : Nat) : Nat → Nat
  | 0 => 0
  | k + 1 => bif Nat.beq (Nat.gcd (k + 1) n) 1 then phiN n k + 1 else phiN n k
theorem stripN_cast : ∀ (f p r : Nat), ((stripN f p r : Nat) : Int) = strip f p r
  | 0, _, _ => rfl
  | f + 1, p, r => by
    rw [stripN, strip]
    by_cases h : r % p = 0
    · rw [if_pos (by omega), h]
      simpa using stripN_cast f p (r / p)
    · rw [if_neg (by omega), show Nat.beq (r % p) 0 = false from beq_no h]
      rfl
theorem mdN_cast : ∀ (f p c r : Nat), 1 ≤ p → ((mdN f p c r : Nat) : Int) = md f p c r
  | 0, _, _, _, _ => rfl
  | f + 1, p, c, r, hp => by
    have h1 : 1 ≤ p * p := Nat.mul_le_mul hp hp
    rw [mdN, md]
    by_cases hr : p ≤ r
    · rw [if_pos (by omega), show Nat.ble p r = true by simpa using hr]
      by_cases h : r % p = 0
      · rw [if_pos (by omega), h]
        have := mdN_cast f (p + 1) (c / (p * p) * (p * p - 1)) (stripN 1000 p r) (by omega)
        rw [stripN_cast] at this
        have e : ((c / (p * p) * (p * p - 1) : Nat) : Int) = (c : Int) / (p * p) * (p * p - 1) := by
          rw [Int.natCast_mul, Int.natCast_ediv, Int.ofNat_sub h1]
          simp
        rw [e] at this
        simpa using this
      · rw [if_neg (by omega), show Nat.beq (r % p) 0 = false from beq_no h]
        simpa using mdN_cast f (p + 1) c r (by omega)
    · rw [if_neg (by omega), show Nat.ble p r = false from ble_no hr]
      rfl
theorem mzN_cast : ∀ (f p c r : Nat), ((mzN f p c r : Nat) : Int) = mz f p c r
  | 0, _, _, _ => rfl
  | f + 1, p, c, r => by
    rw [mzN, mz]
    by_cases hr : p ≤ r
    · rw [if_pos (by omega), show Nat.ble p r = true by simpa using hr]
      by_cases h : r % p = 0
      · rw [if_pos (by omega), h]
        have := mzN_cast f (p + 1) (c / p * (p + 1)) (stripN 1000 p r)
        rw [stripN_cast] at this
        have e : ((c / p * (p + 1) : Nat) : Int) = (c : Int) / p * (p + 1) := by
          rw [Int.natCast_mul, Int.natCast_ediv]
          simp
        rw [e] at this
        simpa using this
      · rw [if_neg (by omega), show Nat.beq (r % p) 0 = false from beq_no h]
        simpa using mzN_cast f (p + 1) c r
    · rw [if_neg (by omega), show Nat.ble p r = false from ble_no hr]
      rfl
theorem phiN_cop (n : Nat) : ∀ k : Nat, phiN n k = (cop (n : Int) k).length
  | 0 => rfl
  | k + 1 => by
    rw [phiN, cop]
    have e : Int.gcd ((k : Int) + 1) n = Nat.gcd (k + 1) n := by
      rw [show ((k : Int) + 1) = ((k + 1 : Nat) : Int) by omega]
      rfl
    rw [e]
    by_cases h : Nat.gcd (k + 1) n = 1
    · rw [if_pos h, h]
      simpa using phiN_cop n k
    · rw [if_neg h, show Nat.beq (Nat.gcd (k + 1) n) 1 = false from beq_no h]
      simpa using phiN_cop n k
def okN (n : Nat) : Bool := Nat.beq (mdN 999 2 (n * n) n) (mdN 999 2 (n * n * n) n / n) && Nat.beq (mzN 999 2 n n) (mdN 999 2 (n * n * n) n / (n * phiN n n))
def allN : Nat → Bool
  | 0 => true
  | k + 1 => okN (k + 1) && allN k
theorem allN_at : ∀ (m : Nat), allN m = true → ∀ n, 1 ≤ n → n ≤ m → okN n = true
  | 0, _, n, h1, h2 => by omega
  | m + 1, h, n, h1, h2 => by
    rw [allN, Bool.and_eq_true] at h
    by_cases e : n = m + 1
    · rw [e]; exact h.1
    · exact allN_at m h.2 n h1 (by omega)
set_option maxRecDepth 100000 in
theorem all_ok : allN 1000 = true := by decide +kernel
theorem idx_one {n : Nat} (h1 : 1 ≤ n) (h2 : n ≤ 1000) : md 999 2 ((n : Int) * n) n = md 999 2 ((n : Int) * n * n) n / n := by
  have h := allN_at 1000 all_ok n h1 h2
  simp only [okN, Bool.and_eq_true, Nat.beq_eq] at h
  have e1 := mdN_cast 999 2 (n * n) n (by omega)
  have e2 := mdN_cast 999 2 (n * n * n) n (by omega)
  simp only [Int.natCast_mul] at e1 e2
  rw [show ((2 : Nat) : Int) = 2 from rfl] at e1 e2
  rw [← e1, ← e2, h.1]
  simp
theorem idx_zero {n : Nat} (h1 : 1 ≤ n) (h2 : n ≤ 1000) : mz 999 2 n n = md 999 2 ((n : Int) * n * n) n / (n * ((cop (n : Int) n).length : Int)) := by
  have h := allN_at 1000 all_ok n h1 h2
  simp only [okN, Bool.and_eq_true, Nat.beq_eq] at h
  have e1 := mzN_cast 999 2 n n
  have e2 := mdN_cast 999 2 (n * n * n) n (by omega)
  simp only [Int.natCast_mul] at e2
  rw [show ((2 : Nat) : Int) = 2 from rfl] at e1 e2
  rw [← e1, ← e2, h.2, phiN_cop]
  simp
theorem md_bd : ∀ (f : Nat) (p c r : Int), 2 ≤ p → 0 ≤ c → r ≤ 1000 → 1 ≤ r → 0 ≤ md f p c r ∧ md f p c r ≤ c
  | 0, _, c, _, _, h, _, _ => ⟨h, Int.le_refl _⟩
  | f + 1, p, c, r, hp, hc, hr, hr1 => by
    rw [md]
    split
    · split
      · rename_i h1 h2
        have h3 := cnt_facts hp (by omega) hc
        have h4 := strip_le hp 1000 r hr1
        have := md_bd f (p + 1) (c / (p * p) * (p * p - 1)) (strip 1000 p r) (by omega) (by omega) (by omega) h4.1
        omega
      · exact md_bd f (p + 1) c r (by omega) hc hr hr1
    · omega
end Go.Proofs.YtdcomnnpnhinfaaDoor
