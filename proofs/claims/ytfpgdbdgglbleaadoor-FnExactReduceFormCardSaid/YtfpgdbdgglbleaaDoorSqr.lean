/- Contracts of square roots, rounded down, and of tests for squares, on both sides. -/
import Derived.Test.YtfpgdbdgglbleaaDoorFmV
namespace Go.Proofs.YtfpgdbdgglbleaaDoor
open Go.ChangeShapes Go.WideShapes Go.ChangeAt Go.RowKit

/-- r is the root of d, rounded down -/
def Root (d r : Int) : Prop := 0 ≤ r ∧ r * r ≤ d ∧ d < (r + 1) * (r + 1)
theorem sq_mono {x y : Int} (hx : 0 ≤ x) (h : x ≤ y) : x * x ≤ y * y := Int.mul_le_mul h h hx (by omega)
theorem sq_lt {x y : Int} (hy : 0 ≤ y) (h : x * x < y * y) : x < y := by
  rcases Int.lt_or_le x y with h' | h'
  · exact h'
  · have := sq_mono hy h'; omega
theorem mul_self_nn (x : Int) : 0 ≤ x * x := by
  rcases Int.le_total 0 x with h | h
  · exact Int.mul_nonneg h h
  · exact Int.mul_nonneg_of_nonpos_of_nonpos h h
theorem root_ex (d : Int) (hd : 0 ≤ d) : ∃ r, Root d r := by
  obtain ⟨n, rfl⟩ : ∃ n : Nat, d = n := ⟨d.toNat, by omega⟩
  clear hd
  induction n with
  | zero => exact ⟨0, by omega, by omega, by omega⟩
  | succ n ih =>
    obtain ⟨r, h1, h2, h3⟩ := ih
    by_cases h : ((n + 1 : Nat) : Int) < (r + 1) * (r + 1)
    · exact ⟨r, h1, by omega, h⟩
    · refine ⟨r + 1, by omega, by omega, ?_⟩
      have : (r + 1 + 1) * (r + 1 + 1) = (r + 1) * (r + 1) + 2 * (r + 1) + 1 := by grind
      omega
theorem root_lt {d r x : Int} (h : Root d r) (hx : 0 ≤ x) (hh : d < (x + 1) * (x + 1)) : r ≤ x := by
  have := sq_lt (x := r) (y := x + 1) (by omega) (by have := h.2.1; omega)
  omega
theorem root_ge {d r x : Int} (h : Root d r) (hh : x * x ≤ d) : x ≤ r := by
  have := sq_lt (x := x) (y := r + 1) (by have := h.1; omega) (by have := h.2.2; omega)
  omega
theorem root_uniq {d r s : Int} (h : Root d r) (k : Root d s) : r = s := by
  have h1 := root_ge h k.2.1
  have h2 := root_ge k h.2.1
  omega
theorem root_bd {d r : Int} (h : Root d r) (hd : d ≤ 5000000000000) : r ≤ 2236067 := by
  have := sq_lt (x := r) (y := 2236068) (by omega) (by have := h.2.1; omega)
  omega

theorem halve {s : Int} {k : Nat} (h : s = 2 ^ (k + 1)) : s.tdiv 2 = 2 ^ k := by
  subst h
  rw [Int.pow_succ, Int.mul_tdiv_cancel _ (by omega)]
end Go.Proofs.YtfpgdbdgglbleaaDoor
