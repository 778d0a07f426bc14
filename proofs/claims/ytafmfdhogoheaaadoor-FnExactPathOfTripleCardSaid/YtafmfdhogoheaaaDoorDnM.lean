/- The way down from a triple: mathematics. -/
import Derived.Test.YtafmfdhogoheaaaDoorNbT
namespace Go.Proofs.YtafmfdhogoheaaaDoor
open Go.ChangeShapes Go.WideShapes Go.ChangeAt Go.RowKit

theorem isT_of {a b c : Int} (h : isT a b c = true) : 1 ≤ a ∧ a ≤ b ∧ b ≤ c ∧ c ≤ 1000000000 ∧ a * a + b * b + c * c = 3 * a * b * c := of_decide_eq_true h
/-- the triple below one that isn't 1, 1, 1 -/
theorem down_is {a b c v : Int} (h : isT a b c = true) (hne : ¬ (a = 1 ∧ b = 1 ∧ c = 1)) (hv : 3 * a * b - c = v) :
    isT (lo3 a b v) (mi3 a b v) (hi3 a b v) = true ∧ hi3 a b v = b ∧ b < c := by
  obtain ⟨h1, h2, h3, h4, h5⟩ := isT_of h
  obtain ⟨d1, d2, d3⟩ := Tt.down a b c h1 h2 h3 h5 hne
  rw [hv] at d1 d2
  have e : a * a + b * b + v * v = 3 * a * b * v := by subst hv; grind
  have hh : hi3 a b v = b := by unfold hi3; (repeat' split) <;> omega
  refine ⟨?_, hh, d3⟩
  unfold mi3
  rw [hh]
  by_cases hc : v ≤ a
  · have hl : lo3 a b v = v := by unfold lo3; (repeat' split) <;> omega
    rw [hl, show a + b + v - v - b = a by omega]
    exact decide_eq_true ⟨by omega, by omega, by omega, by omega, by grind⟩
  · have hl : lo3 a b v = a := by unfold lo3; (repeat' split) <;> omega
    rw [hl, show a + b + v - a - b = v by omega]
    exact decide_eq_true ⟨by omega, by omega, by omega, by omega, by grind⟩
/-- the numbers of the triples behind a triple, down to 1, 1, 1 -/
inductive Dn : Int → Int → Int → Nat → List Int → Prop
  | one : Dn 1 1 1 0 []
  | step (a b c v p q r : Int) (n : Nat) (l : List Int) : ¬ (a = 1 ∧ b = 1 ∧ c = 1) → 3 * a * b - c = v → lo3 a b v = p → mi3 a b v = q → hi3 a b v = r → Dn p q r n l → Dn a b c (n + 1) (p :: q :: r :: l)
theorem Dn.len {a b c : Int} {n : Nat} {l : List Int} (h : Dn a b c n l) : l.length = 3 * n := by
  induction h with
  | one => rfl
  | step => simp only [List.length_cons]; omega
theorem Dn.ex (k : Nat) : ∀ a b c : Int, isT a b c = true → c.toNat ≤ k → ∃ n l, Dn a b c n l ∧ n < c.toNat := by
  induction k with
  | zero =>
    intro a b c h hk
    obtain ⟨h1, h2, h3, _, _⟩ := isT_of h
    omega
  | succ k ih =>
    intro a b c h hk
    obtain ⟨h1, h2, h3, _, _⟩ := isT_of h
    by_cases hne : a = 1 ∧ b = 1 ∧ c = 1
    · obtain ⟨rfl, rfl, rfl⟩ := hne
      exact ⟨0, [], .one, by decide⟩
    · obtain ⟨d1, d2, d3⟩ := down_is h hne rfl
      obtain ⟨n, l, hd, hn⟩ := ih _ _ _ d1 (by rw [d2]; omega)
      exact ⟨n + 1, _, .step a b c _ _ _ _ n l hne rfl rfl rfl rfl hd, by rw [d2] at hn; omega⟩
theorem Dn.next {a b c : Int} {n : Nat} {l : List Int} (h : Dn a b c n l) (hne : ¬ (a = 1 ∧ b = 1 ∧ c = 1)) :
    ∃ m l', n = m + 1 ∧ l = lo3 a b (3 * a * b - c) :: mi3 a b (3 * a * b - c) :: hi3 a b (3 * a * b - c) :: l' ∧ Dn (lo3 a b (3 * a * b - c)) (mi3 a b (3 * a * b - c)) (hi3 a b (3 * a * b - c)) m l' := by
  cases h with
  | one => exact absurd ⟨rfl, rfl, rfl⟩ hne
  | step _ _ _ v p q r m l' _ e1 e2 e3 e4 hd =>
    subst e1 e2 e3 e4
    exact ⟨m, l', rfl, rfl, hd⟩
theorem Dn.stop {n : Nat} {l : List Int} (h : Dn 1 1 1 n l) : n = 0 ∧ l = [] := by
  cases h with
  | one => exact ⟨rfl, rfl⟩
  | step _ _ _ v p q r m l' hn => exact absurd ⟨rfl, rfl, rfl⟩ hn
end Go.Proofs.YtafmfdhogoheaaaDoor
