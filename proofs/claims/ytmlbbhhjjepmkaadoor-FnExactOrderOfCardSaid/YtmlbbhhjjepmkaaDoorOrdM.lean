/- Orders of matrices: mathematics. -/
import Derived.Test.YtmlbbhhjjepmkaaDoorPow
import Derived.Test.YtmlbbhhjjepmkaaDoorKind
namespace Go.Proofs.YtmlbbhhjjepmkaaDoor
open Go.ChangeShapes Go.WideShapes Go.ChangeAt Go.RowKit

namespace Mat
/-- Small kinds: the powers come round, and are small. -/
theorem small6 {a b c d : Int} (h : isM a b c d = true) (hk : (b = 0 ∧ c = 0) ∨ (a + d).natAbs < 2) :
    ∃ p : Nat, (1 ≤ p ∧ p ≤ 6) ∧ pow ⟨a, b, c, d⟩ p = one ∧ ∀ n, n < p → (pow ⟨a, b, c, d⟩ n).ok = true := by
  obtain ⟨ha, hb, hc, hd, hdet⟩ := isM_ent h
  have o1 : one.ok = true := by decide
  have om : (⟨a, b, c, d⟩ : Mat).ok = true := (allW4 _ _ _ _).2 ⟨ha, hb, hc, hd⟩
  have okk : ∀ {x y z t : Int}, Ent x → Ent y → Ent z → Ent t → (⟨x, y, z, t⟩ : Mat).ok = true := fun h1 h2 h3 h4 => (allW4 _ _ _ _).2 ⟨h1, h2, h3, h4⟩
  have en : ∀ {x : Int}, Ent x → Ent (-x) := fun {x} h => by unfold Ent at *; omega
  have e1 : pow ⟨a, b, c, d⟩ 1 = ⟨a, b, c, d⟩ := pow_one' _
  have e2 : pow ⟨a, b, c, d⟩ 2 = (⟨a, b, c, d⟩ : Mat).mul ⟨a, b, c, d⟩ := by rw [pow, e1]
  by_cases t0 : a + d = 0
  · have hd' : d = -a := by omega
    subst hd'
    have e2' : pow ⟨a, b, c, -a⟩ 2 = ⟨-1, 0, 0, -1⟩ := by
      rw [e2]; simp only [mul, mk.injEq]; refine ⟨?_, ?_, ?_, ?_⟩ <;> grind
    have e3' : pow ⟨a, b, c, -a⟩ 3 = ⟨-a, -b, -c, a⟩ := by
      rw [pow, e2']; simp only [mul, mk.injEq]; refine ⟨?_, ?_, ?_, ?_⟩ <;> grind
    have e4' : pow ⟨a, b, c, -a⟩ 4 = one := by
      rw [pow, e3']; simp only [mul, one, mk.injEq]; refine ⟨?_, ?_, ?_, ?_⟩ <;> grind
    refine ⟨4, by decide, e4', fun n hn => ?_⟩
    match n, hn with
    | 0, _ => exact o1
    | 1, _ => rw [e1]; exact om
    | 2, _ => rw [e2']; decide
    | 3, _ => rw [e3']; exact okk (en ha) (en hb) (en hc) ha
  by_cases t1 : a + d = 1
  · have hd' : d = 1 - a := by omega
    subst hd'
    have e2' : pow ⟨a, b, c, 1 - a⟩ 2 = ⟨-(1 - a), b, c, -a⟩ := by
      rw [e2]; simp only [mul, mk.injEq]; refine ⟨?_, ?_, ?_, ?_⟩ <;> grind
    have e3' : pow ⟨a, b, c, 1 - a⟩ 3 = ⟨-1, 0, 0, -1⟩ := by
      rw [pow, e2']; simp only [mul, mk.injEq]; refine ⟨?_, ?_, ?_, ?_⟩ <;> grind
    have e4' : pow ⟨a, b, c, 1 - a⟩ 4 = ⟨-a, -b, -c, -(1 - a)⟩ := by
      rw [pow, e3']; simp only [mul, mk.injEq]; refine ⟨?_, ?_, ?_, ?_⟩ <;> grind
    have e5' : pow ⟨a, b, c, 1 - a⟩ 5 = ⟨1 - a, -b, -c, a⟩ := by
      rw [pow, e4']; simp only [mul, mk.injEq]; refine ⟨?_, ?_, ?_, ?_⟩ <;> grind
    have e6' : pow ⟨a, b, c, 1 - a⟩ 6 = one := by
      rw [pow, e5']; simp only [mul, one, mk.injEq]; refine ⟨?_, ?_, ?_, ?_⟩ <;> grind
    refine ⟨6, by decide, e6', fun n hn => ?_⟩
    match n, hn with
    | 0, _ => exact o1
    | 1, _ => rw [e1]; exact om
    | 2, _ => rw [e2']; exact okk (en hd) hb hc (en ha)
    | 3, _ => rw [e3']; decide
    | 4, _ => rw [e4']; exact okk (en ha) (en hb) (en hc) (en hd)
    | 5, _ => rw [e5']; exact okk hd (en hb) (en hc) ha
  by_cases t2 : a + d = -1
  · have hd' : d = -1 - a := by omega
    subst hd'
    have e2' : pow ⟨a, b, c, -1 - a⟩ 2 = ⟨-1 - a, -b, -c, a⟩ := by
      rw [e2]; simp only [mul, mk.injEq]; refine ⟨?_, ?_, ?_, ?_⟩ <;> grind
    have e3' : pow ⟨a, b, c, -1 - a⟩ 3 = one := by
      rw [pow, e2']; simp only [mul, one, mk.injEq]; refine ⟨?_, ?_, ?_, ?_⟩ <;> grind
    refine ⟨3, by decide, e3', fun n hn => ?_⟩
    match n, hn with
    | 0, _ => exact o1
    | 1, _ => rw [e1]; exact om
    | 2, _ => rw [e2']; exact okk hd (en hb) (en hc) ha
  have hbc : b = 0 ∧ c = 0 := by
    rcases hk with h | h
    · exact h
    · omega
  obtain ⟨rfl, rfl⟩ := hbc
  have hu : a * d = 1 := by simpa using hdet
  have hua : a = 1 ∨ a = -1 := by
    have h1 : a.natAbs * d.natAbs = 1 := by rw [← Int.natAbs_mul, hu]; rfl
    have := Nat.eq_one_of_mul_eq_one_right h1
    omega
  rcases hua with rfl | rfl
  · obtain rfl : d = 1 := by omega
    refine ⟨1, by decide, e1, fun n hn => ?_⟩
    match n, hn with
    | 0, _ => exact o1
  · obtain rfl : d = -1 := by omega
    refine ⟨2, by decide, by rw [e2]; rfl, fun n hn => ?_⟩
    match n, hn with
    | 0, _ => exact o1
    | 1, _ => rw [e1]; exact om

theorem small_ok {a b c d : Int} (h : isM a b c d = true) (hk : (b = 0 ∧ c = 0) ∨ (a + d).natAbs < 2) (n : Nat) : (pow ⟨a, b, c, d⟩ n).ok = true := by
  obtain ⟨p, hp, h1, h2⟩ := small h hk
  have hp0 : 0 < p := Nat.pos_of_dvd_of_pos hp (by decide)
  rw [pow_mod h1]
  exact h2 _ (Nat.mod_lt _ hp0)
def adj (m : Mat) : Mat := ⟨m.d, -m.b, -m.c, m.a⟩
theorem adj_mul {m : Mat} (h : m.det = 1) : m.adj.mul m = one := by
  cases m
  simp only [det] at h
  simp only [adj, mul, one, mk.injEq]
  refine ⟨?_, ?_, ?_, ?_⟩ <;> grind
/-- Where two powers are one, the power of the difference is the identity. -/
theorem pow_cancel {m : Mat} (h : m.det = 1) {i j : Nat} (e : pow m (i + j) = pow m i) : pow m j = one := by
  have hd := pow_det h i
  rw [pow_add] at e
  calc pow m j = (adj (pow m i)).mul ((pow m i).mul (pow m j)) := by rw [← mul_assoc, adj_mul hd, one_mul']
    _ = one := by rw [e, adj_mul hd]
/-- The numbers of the powers. -/
def us (t : Int) : Nat → Int
  | 0 => 0
  | 1 => 1
  | n + 2 => t * us t (n + 1) - us t n
theorem pow_us {m : Mat} (h : m.det = 1) : ∀ n : Nat, pow m (n + 1) = ⟨us (m.a + m.d) (n + 1) * m.a - us (m.a + m.d) n, us (m.a + m.d) (n + 1) * m.b, us (m.a + m.d) (n + 1) * m.c, us (m.a + m.d) (n + 1) * m.d - us (m.a + m.d) n⟩
  | 0 => by cases m; rw [pow_one']; simp [us]
  | n + 1 => by
    rw [pow, pow_us h n]
    obtain ⟨a, b, c, d⟩ := m
    simp only [det] at h
    simp only [mul, us, mk.injEq]
    generalize us (a + d) (n + 1) = x
    generalize us (a + d) n = y
    refine ⟨?_, ?_, ?_, ?_⟩ <;> grind
theorem us_grow {t : Int} (ht : 2 ≤ t.natAbs) : ∀ n : Nat, (us t n).natAbs < (us t (n + 1)).natAbs
  | 0 => by simp [us]
  | n + 1 => by
    have ih := us_grow ht n
    rw [show us t (n + 1 + 1) = t * us t (n + 1) - us t n from rfl]
    have h1 : (t * us t (n + 1)).natAbs = t.natAbs * (us t (n + 1)).natAbs := Int.natAbs_mul _ _
    have h2 : 2 * (us t (n + 1)).natAbs ≤ t.natAbs * (us t (n + 1)).natAbs := Nat.mul_le_mul_right _ ht
    omega
theorem pow_big {m : Mat} (h : m.det = 1) (hk : 2 ≤ kind m.a m.b m.c m.d) {j : Nat} (hj : 1 ≤ j) : pow m j ≠ one := by
  intro e
  have hbc : ¬ (m.b = 0 ∧ m.c = 0) := fun hh => by unfold kind at hk; rw [if_pos hh] at hk; omega
  have ht : 2 ≤ (m.a + m.d).natAbs := by
    unfold kind at hk
    rw [if_neg hbc] at hk
    split at hk
    · omega
    · omega
  obtain ⟨n, rfl⟩ : ∃ n, j = n + 1 := ⟨j - 1, by omega⟩
  rw [pow_us h n] at e
  simp only [one, mk.injEq] at e
  have hu : us (m.a + m.d) (n + 1) ≠ 0 := fun hz => by
    have := us_grow ht n
    rw [hz] at this
    simp at this
  refine hbc ⟨?_, ?_⟩
  · rcases Int.mul_eq_zero.1 e.2.1 with h1 | h1
    · exact absurd h1 hu
    · exact h1
  · rcases Int.mul_eq_zero.1 e.2.2.1 with h1 | h1
    · exact absurd h1 hu
    · exact h1
open Classical in
/-- The order of a matrix of a small kind. -/
theorem order_ex {a b c d : Int} (h : isM a b c d = true) (hk : (b = 0 ∧ c = 0) ∨ (a + d).natAbs < 2) : ∃ o, 1 ≤ o ∧ o ≤ 6 ∧ pow ⟨a, b, c, d⟩ o = one ∧ ∀ i, 1 ≤ i → i < o → pow ⟨a, b, c, d⟩ i ≠ one := by
  obtain ⟨p, hp, h1, _⟩ := small6 h hk
  have key : ∀ n, (∃ o, 1 ≤ o ∧ o ≤ n ∧ pow ⟨a, b, c, d⟩ o = one ∧ ∀ i, 1 ≤ i → i < o → pow ⟨a, b, c, d⟩ i ≠ one) ∨ ∀ i, 1 ≤ i → i ≤ n → pow ⟨a, b, c, d⟩ i ≠ one := by
    intro n
    induction n with
    | zero => exact .inr fun i h1 h2 => by omega
    | succ n ih =>
      rcases ih with ⟨o, x1, x2, x3, x4⟩ | ih
      · exact .inl ⟨o, x1, by omega, x3, x4⟩
      · by_cases he : pow ⟨a, b, c, d⟩ (n + 1) = one
        · exact .inl ⟨n + 1, by omega, by omega, he, fun i y1 y2 => ih i y1 (by omega)⟩
        · refine .inr fun i y1 y2 => ?_
          rcases (show i ≤ n ∨ i = n + 1 by omega) with z | rfl
          · exact ih i y1 z
          · exact he
  rcases key 6 with ⟨o, x1, x2, x3, x4⟩ | hno
  · exact ⟨o, x1, x2, x3, x4⟩
  · exact absurd h1 (hno p hp.1 hp.2)
end Mat
/-- What the first powers are where the program stops. -/
def FE (m : Mat) (J : Nat) : Prop :=
  (∀ i i', 1 ≤ i → i < i' → i' ≤ J → Mat.pow m i ≠ Mat.pow m i') ∧ (J = 6 ∨ (∃ i, 1 ≤ i ∧ i ≤ J ∧ Mat.pow m i = Mat.pow m (J + 1)) ∨ (∃ j, (Mat.pow m j).ok = false))
theorem FE.small {m : Mat} {J o : Nat} (h : FE m J) (hd : m.det = 1) (hok : ∀ n, (Mat.pow m n).ok = true) (h1 : 1 ≤ o) (h6 : o ≤ 6) (ho : Mat.pow m o = Mat.one) (hmin : ∀ i, 1 ≤ i → i < o → Mat.pow m i ≠ Mat.one) :
    o ≤ J ∧ ∀ i, 1 ≤ i → i ≤ J → Mat.pow m i = Mat.one → i = o := by
  obtain ⟨hdis, hend⟩ := h
  have hoJ : o ≤ J := by
    rcases hend with rfl | ⟨i, y1, y2, y3⟩ | ⟨j, hj⟩
    · exact h6
    · have e : Mat.pow m (i + (J + 1 - i)) = Mat.pow m i := by rw [show i + (J + 1 - i) = J + 1 by omega, y3]
      have hz := Mat.pow_cancel hd e
      rcases Nat.lt_or_ge (J + 1 - i) o with hl | hl
      · exact absurd hz (hmin _ (by omega) hl)
      · omega
    · rw [hok j] at hj; cases hj
  refine ⟨hoJ, fun i z1 z2 z3 => ?_⟩
  rcases Nat.lt_trichotomy i o with hl | rfl | hl
  · exact absurd z3 (hmin i z1 hl)
  · rfl
  · exact absurd (ho.trans z3.symm) (hdis o i h1 hl z2)
end Go.Proofs.YtmlbbhhjjepmkaaDoor
