/- The marks' list. -/
import Derived.Test.YtmlbbhhjjepmkaaBase
namespace Go.Proofs.Ytmlbbhhjjepmkaa
open Go.ChangeShapes Go.WideShapes Go.ChangeAt Go.RowKit

/-- m, m + 1, .. -/
def ramp (m : Int) (n : Nat) : List Int := (List.range n).map fun i : Nat => m + (i : Int)
theorem ramp_length (m : Int) (n : Nat) : (ramp m n).length = n := by simp [ramp]
theorem ramp_get (m : Int) (n k : Nat) (h : k < n) : (ramp m n).getD k 0 = m + k := by simp [ramp, List.getD, h]

/-- After k marks: the first k of the ramp, then the rest of xs. -/
def part (m : Int) (xs : List Int) (k : Nat) : List Int := ramp m k ++ xs.drop k
theorem part_length (m : Int) (xs : List Int) (k : Nat) (h : k ≤ xs.length) : (part m xs k).length = xs.length := by simp [part, ramp_length]; omega
theorem part_zero (m : Int) (xs : List Int) : part m xs 0 = xs := by simp [part, ramp]
theorem part_all (m : Int) (xs : List Int) : part m xs xs.length = ramp m xs.length := by simp [part]
theorem part_get (m : Int) (xs : List Int) (k j : Nat) : (part m xs k).getD j 0 = if j < k then m + j else xs.getD j 0 := by
  unfold part
  by_cases h : j < k
  · rw [if_pos h, List.getD, List.getElem?_append_left (by rw [ramp_length]; exact h)]
    exact ramp_get m k j h
  · rw [if_neg h, List.getD, List.getElem?_append_right (by rw [ramp_length]; omega), ramp_length, List.getElem?_drop, show k + (j - k) = j by omega]
    rfl

end Go.Proofs.Ytmlbbhhjjepmkaa
