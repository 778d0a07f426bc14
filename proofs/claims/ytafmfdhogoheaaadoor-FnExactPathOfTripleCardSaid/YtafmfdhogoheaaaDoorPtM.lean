/- The way down from a triple, place by place; the letters of its path: mathematics. -/
import Derived.Test.YtafmfdhogoheaaaDoorDnM
namespace Go.Proofs.YtafmfdhogoheaaaDoor
open Go.ChangeShapes Go.WideShapes Go.ChangeAt Go.RowKit

structure Trp where
  x : Int
  y : Int
  z : Int
/-- the triple at a place of a flat list -/
def triAt (l : List Int) (k : Nat) : Trp := ⟨l.getD (3 * k) 0, l.getD (3 * k + 1) 0, l.getD (3 * k + 2) 0⟩
theorem triAt_succ (p q r : Int) (l : List Int) (k : Nat) : triAt (p :: q :: r :: l) (k + 1) = triAt l k := by
  unfold triAt
  rw [show 3 * (k + 1) = 3 * k + 3 by omega]
  rfl
/-- what is known of the way down from a triple: D 0, D 1 .. D n -/
structure Way (D : Nat → Trp) (n : Nat) : Prop where
  tri : ∀ k, k ≤ n → isT (D k).x (D k).y (D k).z = true
  down : ∀ k, k < n → (D (k + 1)).z = (D k).y ∧ (D k).y < (D k).z
  nb : ∀ k, k < n → (D (k + 1)).x = lo3 (D k).x (D k).y (3 * (D k).x * (D k).y - (D k).z) ∧ (D (k + 1)).y = mi3 (D k).x (D k).y (3 * (D k).x * (D k).y - (D k).z)
  fin : (D n).x = 1 ∧ (D n).y = 1 ∧ (D n).z = 1
  ne : ∀ k, k < n → ¬ ((D k).x = 1 ∧ (D k).y = 1 ∧ (D k).z = 1)
theorem Dn.way {a b c : Int} {n : Nat} {l : List Int} (h : Dn a b c n l) (ht : isT a b c = true) : Way (triAt (a :: b :: c :: l)) n := by
  induction h with
  | one => exact ⟨fun k hk => by obtain rfl : k = 0 := by omega
                                 exact ht, fun k hk => absurd hk (by omega), fun k hk => absurd hk (by omega), ⟨rfl, rfl, rfl⟩, fun k hk => absurd hk (by omega)⟩
  | step a b c v p q r n l hne hv hp hq hr hd ih =>
    obtain ⟨d1, d2, d3⟩ := down_is ht hne hv
    rw [hp, hq, hr] at d1
    rw [hr] at d2
    have w := ih d1
    refine ⟨?_, ?_, ?_, ?_, ?_⟩
    · intro k hk
      cases k with
      | zero => exact ht
      | succ k => rw [triAt_succ]; exact w.tri k (by omega)
    · intro k hk
      cases k with
      | zero => rw [triAt_succ]; exact ⟨d2, d3⟩
      | succ k => rw [triAt_succ, triAt_succ]; exact w.down k (by omega)
    · intro k hk
      cases k with
      | zero =>
        rw [triAt_succ]
        show p = lo3 a b (3 * a * b - c) ∧ q = mi3 a b (3 * a * b - c)
        rw [hv]
        exact ⟨hp.symm, hq.symm⟩
      | succ k => rw [triAt_succ, triAt_succ]; exact w.nb k (by omega)
    · rw [triAt_succ]; exact w.fin
    · intro k hk
      cases k with
      | zero => exact hne
      | succ k => rw [triAt_succ]; exact w.ne k (by omega)
namespace Way
variable {D : Nat → Trp} {n : Nat}
theorem last1 (w : Way D n) (hn : 1 ≤ n) : (D (n - 1)).x = 1 ∧ (D (n - 1)).y = 1 ∧ (D (n - 1)).z = 2 := by
  have h := w.down (n - 1) (by omega)
  have t := isT_of (w.tri (n - 1) (by omega))
  rw [show n - 1 + 1 = n by omega, w.fin.2.2] at h
  have hx : (D (n - 1)).x = (D (n - 1)).y := by omega
  have tw := Tt.twins (D (n - 1)).x (D (n - 1)).z t.1 (by omega) (by rw [← hx] at t; exact t.2.2.2.2)
  omega
theorem two_no (z : Int) (h : 2 * 2 + 2 * 2 + z * z = 3 * 2 * 2 * z) : False := by
  have e : z * (12 - z) = 8 := by grind
  have h1 : 1 ≤ z ∧ z ≤ 11 := by
    constructor
    · by_cases hc : 1 ≤ z
      · exact hc
      · have : z * (12 - z) ≤ 0 := Int.mul_nonpos_of_nonpos_of_nonneg (by omega) (by omega)
        omega
    · by_cases hc : z ≤ 11
      · exact hc
      · have : z * (12 - z) ≤ 0 := Int.mul_nonpos_of_nonneg_of_nonpos (by omega) (by omega)
        omega
  have : z = 1 ∨ z = 2 ∨ z = 3 ∨ z = 4 ∨ z = 5 ∨ z = 6 ∨ z = 7 ∨ z = 8 ∨ z = 9 ∨ z = 10 ∨ z = 11 := by omega
  rcases this with rfl | rfl | rfl | rfl | rfl | rfl | rfl | rfl | rfl | rfl | rfl <;> omega
theorem last2 (w : Way D n) (hn : 2 ≤ n) : (D (n - 2)).x = 1 ∧ (D (n - 2)).y = 2 ∧ (D (n - 2)).z = 5 := by
  have h := w.down (n - 2) (by omega)
  have t := isT_of (w.tri (n - 2) (by omega))
  have l := w.last1 (by omega)
  rw [show n - 2 + 1 = n - 1 by omega, l.2.2] at h
  obtain ⟨t1, t2, t3, t4, t5⟩ := t
  rw [← h.1] at t2 t5 ⊢
  have : (D (n - 2)).x = 1 ∨ (D (n - 2)).x = 2 := by omega
  rcases this with e | e
  · rw [e] at t5 ⊢
    have e2 : (D (n - 2)).z * (6 - (D (n - 2)).z) = 5 := by grind
    have hz : (D (n - 2)).z ≤ 5 := by
      by_cases hc : (D (n - 2)).z ≤ 5
      · exact hc
      · have : (D (n - 2)).z * (6 - (D (n - 2)).z) ≤ 0 := Int.mul_nonpos_of_nonneg_of_nonpos (by omega) (by omega)
        omega
    have : (D (n - 2)).z = 3 ∨ (D (n - 2)).z = 4 ∨ (D (n - 2)).z = 5 := by omega
    rcases this with e3 | e3 | e3
    · rw [e3] at e2; omega
    · rw [e3] at e2; omega
    · exact ⟨rfl, rfl, e3⟩
  · rw [e] at t5
    exact absurd t5 (fun h => two_no _ h)
theorem mono (w : Way D n) : ∀ j k, k + j ≤ n → (D (k + j)).z + j ≤ (D k).z := by
  intro j
  induction j with
  | zero => intro k _; simp
  | succ j ih =>
    intro k hk
    have h := w.down (k + j) (by omega)
    have t := isT_of (w.tri (k + j) (by omega))
    have := ih k (by omega)
    rw [show k + (j + 1) = k + j + 1 by omega, h.1]
    omega
theorem five (w : Way D n) : (D 0).z < 5 ↔ n < 2 := by
  constructor
  · intro h
    by_cases hc : n < 2
    · exact hc
    · have l := w.last2 (by omega)
      have m := w.mono (n - 2) 0 (by omega)
      rw [Nat.zero_add, l.2.2] at m
      omega
  · intro h
    have : n = 0 ∨ n = 1 := by omega
    rcases this with rfl | rfl
    · rw [w.fin.2.2]; decide
    · have l := w.last1 (Nat.le_refl _)
      rw [l.2.2]; decide
theorem over (w : Way D n) (k : Nat) (hk : k + 2 < n) : 5 < (D k).z := by
  have l := w.last2 (by omega)
  have m := w.mono (n - 2 - k) k (by omega)
  rw [show k + (n - 2 - k) = n - 2 by omega, l.2.2] at m
  omega
theorem lenb (w : Way D n) : n < 1000000000 := by
  have m := w.mono n 0 (by omega)
  have t := (isT_of (w.tri 0 (by omega))).2.2.2.1
  rw [Nat.zero_add, w.fin.2.2] at m
  omega
end Way
/-- one letter of the path: from the triple D (i + 1) up to D i; the number that is kept so far -/
def letP (D : Nat → Trp) (i : Nat) (x : Int) : UInt8 × Int := if (D i).x = x then (76, x) else (82, (D (i + 1)).z)
/-- the letters of the path up to D i, from (1, 2, 5) = D m on: j of them -/
def upP (D : Nat → Trp) (m : Nat) : Nat → List UInt8 × Int
  | 0 => ([], 1)
  | j + 1 => ((upP D m j).1 ++ [(letP D (m - (j + 1)) (upP D m j).2).1], (letP D (m - (j + 1)) (upP D m j).2).2)
theorem upP_len (D : Nat → Trp) (m : Nat) : ∀ j, (upP D m j).1.length = j := by
  intro j
  induction j with
  | zero => rfl
  | succ j ih => simp [upP, ih]
theorem upP_lt {D : Nat → Trp} {n : Nat} (w : Way D n) (hn : 2 ≤ n) : ∀ j, j ≤ n - 2 → 1 ≤ (upP D (n - 2) j).2 ∧ (upP D (n - 2) j).2 < (D (n - 2 - j)).z := by
  intro j
  induction j with
  | zero =>
    intro _
    have l := w.last2 hn
    rw [Nat.sub_zero, l.2.2]
    exact ⟨by show (1 : Int) ≤ 1; decide, by show (1 : Int) < 5; decide⟩
  | succ j ih =>
    intro hj
    have h := ih (by omega)
    have d := w.down (n - 2 - (j + 1)) (by omega)
    have t := isT_of (w.tri (n - 2 - (j + 1)) (by omega))
    rw [show n - 2 - (j + 1) + 1 = n - 2 - j by omega] at d
    simp only [upP, letP]
    split
    · exact ⟨h.1, by omega⟩
    · rw [show n - 2 - (j + 1) + 1 = n - 2 - j by omega]
      exact ⟨by omega, by omega⟩
/-- the model's test -/
theorem spec_test {D : Nat → Trp} {n : Nat} (w : Way D n) (hn : 2 ≤ n) (j : Nat) (hj : j + 1 ≤ n - 2) (x : Int) (hx : x < (D (n - 2 - j)).z) :
    decide (lo3 x (D (n - 2 - j)).z (D (n - 2 - (j + 1))).z = (D (n - 2 - (j + 1))).x ∧ mi3 x (D (n - 2 - j)).z (D (n - 2 - (j + 1))).z = (D (n - 2 - (j + 1))).y ∧ hi3 x (D (n - 2 - j)).z (D (n - 2 - (j + 1))).z = (D (n - 2 - (j + 1))).z) = decide ((D (n - 2 - (j + 1))).x = x) := by
  have d := w.down (n - 2 - (j + 1)) (by omega)
  rw [show n - 2 - (j + 1) + 1 = n - 2 - j by omega] at d
  have hl : lo3 x (D (n - 2 - j)).z (D (n - 2 - (j + 1))).z = x := by unfold lo3; (repeat' split) <;> omega
  have hh : hi3 x (D (n - 2 - j)).z (D (n - 2 - (j + 1))).z = (D (n - 2 - (j + 1))).z := by unfold hi3; (repeat' split) <;> omega
  have hm : mi3 x (D (n - 2 - j)).z (D (n - 2 - (j + 1))).z = (D (n - 2 - j)).z := by unfold mi3; rw [hl, hh]; omega
  rw [hl, hh, hm]
  by_cases e : (D (n - 2 - (j + 1))).x = x
  · rw [decide_eq_true ⟨e.symm, d.1, rfl⟩, decide_eq_true e]
  · rw [decide_eq_false (fun k => e k.1.symm), decide_eq_false e]
end Go.Proofs.YtafmfdhogoheaaaDoor
