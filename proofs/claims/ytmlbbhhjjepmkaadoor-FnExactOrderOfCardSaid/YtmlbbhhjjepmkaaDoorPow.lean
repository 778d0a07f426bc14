/- Powers of matrices, and powers by squares: mathematics alone. -/
import Derived.Test.YtmlbbhhjjepmkaaDoorMat
namespace Go.Proofs.YtmlbbhhjjepmkaaDoor
open Go.ChangeShapes Go.WideShapes Go.ChangeAt Go.RowKit

namespace Mat
theorem mul_assoc (m n p : Mat) : (m.mul n).mul p = m.mul (n.mul p) := by
  cases m; cases n; cases p
  simp only [mul, mk.injEq]
  refine ⟨?_, ?_, ?_, ?_⟩ <;> grind
theorem mul_one' (m : Mat) : m.mul one = m := by cases m; simp [one, mul]
theorem one_mul' (m : Mat) : one.mul m = m := by cases m; simp [one, mul]
def det (m : Mat) : Int := m.a * m.d - m.b * m.c
theorem det_mul (m n : Mat) : (m.mul n).det = m.det * n.det := by
  cases m; cases n
  simp only [mul, det]
  grind
theorem is_iff {m : Mat} : m.is = true ↔ m.ok = true ∧ m.det = 1 := by
  constructor
  · intro h
    exact ⟨is_ok h, (is_ent h).2.2.2.2⟩
  · rintro ⟨h, hd⟩
    obtain ⟨h1, h2, h3, h4⟩ := ok_ent h
    exact decide_eq_true ⟨h1, h2, h3, h4, hd⟩
theorem is_mul {m n : Mat} (hm : m.is = true) (hn : n.is = true) : (m.mul n).is = (m.mul n).ok := by
  rw [is_iff] at hm hn
  rw [Bool.eq_iff_iff, is_iff, det_mul, hm.2, hn.2]
  simp
theorem one_is : one.is = true := by decide

def pow (m : Mat) : Nat → Mat
  | 0 => one
  | n + 1 => (pow m n).mul m
theorem pow_add (m : Mat) (i j : Nat) : pow m (i + j) = (pow m i).mul (pow m j) := by
  induction j with
  | zero => rw [Nat.add_zero, pow, mul_one']
  | succ j ih => rw [← Nat.add_assoc, pow, ih, mul_assoc]; rfl
theorem pow_one' (m : Mat) : pow m 1 = m := by rw [pow, pow, one_mul']
theorem pow_per {m : Mat} {p : Nat} (h : pow m p = one) (q r : Nat) : pow m (p * q + r) = pow m r := by
  induction q with
  | zero => simp
  | succ q ih => rw [Nat.mul_succ, show p * q + p + r = p + (p * q + r) by omega, pow_add, h, one_mul', ih]
theorem pow_mod {m : Mat} {p : Nat} (h : pow m p = one) (n : Nat) : pow m n = pow m (n % p) := by
  have := pow_per h (n / p) (n % p)
  rwa [Nat.div_add_mod] at this
theorem pow_det {m : Mat} (h : m.det = 1) (n : Nat) : (pow m n).det = 1 := by
  induction n with
  | zero => rfl
  | succ n ih => rw [pow, det_mul, ih, h]; rfl

/-- Small kinds: the powers come round, and are small. -/
theorem small {a b c d : Int} (h : isM a b c d = true) (hk : (b = 0 ∧ c = 0) ∨ (a + d).natAbs < 2) :
    ∃ p : Nat, p ∣ 12 ∧ pow ⟨a, b, c, d⟩ p = one ∧ ∀ n, n < p → (pow ⟨a, b, c, d⟩ n).ok = true := by
  obtain ⟨ha, hb, hc, hd, hdet⟩ := isM_ent h
  have o1 : one.ok = true := by decide
  have om : (⟨a, b, c, d⟩ : Mat).ok = true := (allW4 _ _ _ _).2 ⟨ha, hb, hc, hd⟩
  have okk : ∀ {x y z t : Int}, Ent x → Ent y → Ent z → Ent t → (⟨x, y, z, t⟩ : Mat).ok = true := fun h1 h2 h3 h4 => (allW4 _ _ _ _).2 ⟨h1, h2, h3, h4⟩
  have en : ∀ {x : Int}, Ent x → Ent (-x) := fun {x} h => by unfold Ent at *; omega
  have e1 : pow ⟨a, b, c, d⟩ 1 = ⟨a, b, c, d⟩ := pow_one' _
  have e2 : pow ⟨a, b, c, d⟩ 2 = (⟨a, b, c, d⟩ : Mat).mul ⟨a, b, c, d⟩ := by rw [pow, e1]
  by_cases t0 : a + d = 0
  · have hd' : d = -a := by omega
    subst hd'
    have e2' : pow ⟨a, b, c, -a⟩ 2 = ⟨-1, 0, 0, -1⟩ := by
      rw [e2]; simp only [mul, mk.injEq]; refine ⟨?_, ?_, ?_, ?_⟩ <;> grind
    have e3' : pow ⟨a, b, c, -a⟩ 3 = ⟨-a, -b, -c, a⟩ := by
      rw [pow, e2']; simp only [mul, mk.injEq]; refine ⟨?_, ?_, ?_, ?_⟩ <;> grind
    have e4' : pow ⟨a, b, c, -a⟩ 4 = one := by
      rw [pow, e3']; simp only [mul, one, mk.injEq]; refine ⟨?_, ?_, ?_, ?_⟩ <;> grind
    refine ⟨4, by decide, e4', fun n hn => ?_⟩
    match n, hn with
    | 0, _ => exact o1
    | 1, _ => rw [e1]; exact om
    | 2, _ => rw [e2']; decide
    | 3, _ => rw [e3']; exact okk (en ha) (en hb) (en hc) ha
  by_cases t1 : a + d = 1
  · have hd' : d = 1 - a := by omega
    subst hd'
    have e2' : pow ⟨a, b, c, 1 - a⟩ 2 = ⟨-(1 - a), b, c, -a⟩ := by
      rw [e2]; simp only [mul, mk.injEq]; refine ⟨?_, ?_, ?_, ?_⟩ <;> grind
    have e3' : pow ⟨a, b, c, 1 - a⟩ 3 = ⟨-1, 0, 0, -1⟩ := by
      rw [pow, e2']; simp only [mul, mk.injEq]; refine ⟨?_, ?_, ?_, ?_⟩ <;> grind
    have e4' : pow ⟨a, b, c, 1 - a⟩ 4 = ⟨-a, -b, -c, -(1 - a)⟩ := by
      rw [pow, e3']; simp only [mul, mk.injEq]; refine ⟨?_, ?_, ?_, ?_⟩ <;> grind
    have e5' : pow ⟨a, b, c, 1 - a⟩ 5 = ⟨1 - a, -b, -c, a⟩ := by
      rw [pow, e4']; simp only [mul, mk.injEq]; refine ⟨?_, ?_, ?_, ?_⟩ <;> grind
    have e6' : pow ⟨a, b, c, 1 - a⟩ 6 = one := by
      rw [pow, e5']; simp only [mul, one, mk.injEq]; refine ⟨?_, ?_, ?_, ?_⟩ <;> grind
    refine ⟨6, by decide, e6', fun n hn => ?_⟩
    match n, hn with
    | 0, _ => exact o1
    | 1, _ => rw [e1]; exact om
    | 2, _ => rw [e2']; exact okk (en hd) hb hc (en ha)
    | 3, _ => rw [e3']; decide
    | 4, _ => rw [e4']; exact okk (en ha) (en hb) (en hc) (en hd)
    | 5, _ => rw [e5']; exact okk hd (en hb) (en hc) ha
  by_cases t2 : a + d = -1
  · have hd' : d = -1 - a := by omega
    subst hd'
    have e2' : pow ⟨a, b, c, -1 - a⟩ 2 = ⟨-1 - a, -b, -c, a⟩ := by
      rw [e2]; simp only [mul, mk.injEq]; refine ⟨?_, ?_, ?_, ?_⟩ <;> grind
    have e3' : pow ⟨a, b, c, -1 - a⟩ 3 = one := by
      rw [pow, e2']; simp only [mul, one, mk.injEq]; refine ⟨?_, ?_, ?_, ?_⟩ <;> grind
    refine ⟨3, by decide, e3', fun n hn => ?_⟩
    match n, hn with
    | 0, _ => exact o1
    | 1, _ => rw [e1]; exact om
    | 2, _ => rw [e2']; exact okk hd (en hb) (en hc) ha
  have hbc : b = 0 ∧ c = 0 := by
    rcases hk with h | h
    · exact h
    · omega
  obtain ⟨rfl, rfl⟩ := hbc
  have hu : a * d = 1 := by simpa using hdet
  have hua : a = 1 ∨ a = -1 := by
    have h1 : a.natAbs * d.natAbs = 1 := by rw [← Int.natAbs_mul, hu]; rfl
    have := Nat.eq_one_of_mul_eq_one_right h1
    omega
  rcases hua with rfl | rfl
  · obtain rfl : d = 1 := by omega
    refine ⟨1, by decide, e1, fun n hn => ?_⟩
    match n, hn with
    | 0, _ => exact o1
  · obtain rfl : d = -1 := by omega
    refine ⟨2, by decide, by rw [e2]; rfl, fun n hn => ?_⟩
    match n, hn with
    | 0, _ => exact o1
    | 1, _ => rw [e1]; exact om
theorem small_all {a b c d : Int} (h : isM a b c d = true) (hk : (b = 0 ∧ c = 0) ∨ (a + d).natAbs < 2) (n : Nat) :
    (pow ⟨a, b, c, d⟩ n).ok = true ∧ pow ⟨a, b, c, d⟩ n = pow ⟨a, b, c, d⟩ (n % 12) := by
  obtain ⟨p, hp, h1, h2⟩ := small h hk
  have hp0 : 0 < p := Nat.pos_of_dvd_of_pos hp (by decide)
  refine ⟨?_, ?_⟩
  · rw [pow_mod h1]; exact h2 _ (Nat.mod_lt _ hp0)
  · rw [pow_mod h1 n, pow_mod h1 (n % 12), Nat.mod_mod_of_dvd _ hp]
end Mat

/-- The product, where its numbers are small enough. -/
def tm (p m : Mat) : Option Mat := if (p.mul m).ok = true then some (p.mul m) else none
/-- Powers by squares, where all numbers on the way are small enough. -/
def pbs (p m : Mat) (k : Nat) : Option Mat :=
  if k = 0 then some p
  else (if k % 2 = 1 then tm p m else some p).bind fun p' => if k = 1 then some p' else (tm m m).bind fun m' => pbs p' m' (k / 2)
termination_by k
decreasing_by omega
theorem pbs_zero (p m : Mat) : pbs p m 0 = some p := by rw [pbs, if_pos rfl]
theorem pbs_one_yes {p m : Mat} (h : (p.mul m).ok = true) : pbs p m 1 = some (p.mul m) := by
  rw [pbs]; simp [tm, h]
theorem pbs_odd_no {p m : Mat} {k : Nat} (hk : k % 2 = 1) (h : (p.mul m).ok = false) : pbs p m k = none := by
  rw [pbs, if_neg (by omega), if_pos hk]; simp [tm, h]
theorem pbs_odd_sq {p m : Mat} {k : Nat} (hk : k % 2 = 1) (h1 : k ≠ 1) (h : (p.mul m).ok = true) (hm : (m.mul m).ok = false) : pbs p m k = none := by
  rw [pbs, if_neg (by omega), if_pos hk]; simp [tm, h, hm, h1]
theorem pbs_odd_go {p m : Mat} {k : Nat} (hk : k % 2 = 1) (h1 : k ≠ 1) (h : (p.mul m).ok = true) (hm : (m.mul m).ok = true) : pbs p m k = pbs (p.mul m) (m.mul m) (k / 2) := by
  rw [pbs, if_neg (by omega), if_pos hk]; simp [tm, h, hm, h1]
theorem pbs_even_sq {p m : Mat} {k : Nat} (h0 : k ≠ 0) (hk : k % 2 = 0) (hm : (m.mul m).ok = false) : pbs p m k = none := by
  rw [pbs, if_neg h0, if_neg (by omega)]; simp [tm, hm]; omega
theorem pbs_even_go {p m : Mat} {k : Nat} (h0 : k ≠ 0) (hk : k % 2 = 0) (hm : (m.mul m).ok = true) : pbs p m k = pbs p (m.mul m) (k / 2) := by
  rw [pbs, if_neg h0, if_neg (by omega)]; simp [tm, hm]; omega
/-- Where all powers are small, the power by squares is the power. -/
theorem pbs_small {m : Mat} (h : ∀ n, (Mat.pow m n).ok = true) (k : Nat) : ∀ i j : Nat, pbs (Mat.pow m i) (Mat.pow m j) k = some (Mat.pow m (i + j * k)) := by
  induction k using Nat.strongRecOn with
  | _ k ih =>
    intro i j
    have o1 : ((Mat.pow m i).mul (Mat.pow m j)).ok = true := by rw [← Mat.pow_add]; exact h _
    have o2 : ((Mat.pow m j).mul (Mat.pow m j)).ok = true := by rw [← Mat.pow_add]; exact h _
    by_cases h0 : k = 0
    · subst h0; rw [pbs_zero]; simp
    · by_cases h1 : k = 1
      · subst h1; rw [pbs_one_yes o1, ← Mat.pow_add, Nat.mul_one]
      · by_cases he : k % 2 = 1
        · rw [pbs_odd_go he h1 o1 o2, ← Mat.pow_add, ← Mat.pow_add, ih (k / 2) (by omega)]
          have e : i + j + (j + j) * (k / 2) = i + j * k := by
            have : j * k = j * (2 * (k / 2) + 1) := by rw [show 2 * (k / 2) + 1 = k by omega]
            rw [this]; grind
          rw [e]
        · rw [pbs_even_go h0 (by omega) o2, ← Mat.pow_add, ih (k / 2) (by omega)]
          have e : i + (j + j) * (k / 2) = i + j * k := by
            have : j * k = j * (2 * (k / 2)) := by rw [show 2 * (k / 2) = k by omega]
            rw [this]; grind
          rw [e]
end Go.Proofs.YtmlbbhhjjepmkaaDoor
