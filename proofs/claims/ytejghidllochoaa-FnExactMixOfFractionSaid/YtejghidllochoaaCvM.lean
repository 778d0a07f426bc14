/- Convergents: mathematics. -/
import Derived.Test.YtejghidllochoaaA
namespace Go.Proofs.Ytejghidllochoaa
open Go.ChangeShapes Go.WideShapes Go.ChangeAt Go.RowKit

/-- The convergent behind b and f for the next number x, as int64 has it. -/
def stepC (b f : Int × Int) (x : Int) : Int × Int := (wrap64 (wrap64 (x * f.1) + b.1), wrap64 (wrap64 (x * f.2) + b.2))
/-- The last two convergents. -/
def cst (xs : List Int) : (Int × Int) × (Int × Int) := xs.foldl (fun s x => (s.2, stepC s.1 s.2 x)) ((0, 1), (1, 0))
theorem cst_snoc (xs : List Int) (x : Int) : cst (xs ++ [x]) = ((cst xs).2, stepC (cst xs).1 (cst xs).2 x) := by simp [cst]
/-- All convergents. -/
def cvs (xs : List Int) : List (Int × Int) := (List.range xs.length).map fun i => (cst (xs.take (i + 1))).2
theorem cvs_len (xs : List Int) : (cvs xs).length = xs.length := by simp [cvs]
theorem cvs_snoc (xs : List Int) (x : Int) : cvs (xs ++ [x]) = cvs xs ++ [(cst (xs ++ [x])).2] := by
  unfold cvs
  rw [List.length_append, List.length_singleton, List.range_succ, List.map_append, List.map_singleton]
  congr 1
  · apply List.map_congr_left
    intro i hi
    rw [List.mem_range] at hi
    rw [List.take_append_of_le_length (by omega)]
  · rw [List.take_of_length_le (by simp)]
theorem take_snoc (xs : List Int) (k : Nat) (hk : k < xs.length) (x : Int) (hx : xs.getD k 0 = x) : xs.take (k + 1) = xs.take k ++ [x] := by
  rw [List.take_succ_eq_append_getElem hk]
  simp [← hx, List.getD, List.getElem?_eq_getElem hk]
theorem cvs_take (xs : List Int) (k : Nat) (hk : k < xs.length) (x : Int) (hx : xs.getD k 0 = x) :
    cvs (xs.take (k + 1)) = cvs (xs.take k) ++ [(cst (xs.take (k + 1))).2] ∧ cst (xs.take (k + 1)) = ((cst (xs.take k)).2, stepC (cst (xs.take k)).1 (cst (xs.take k)).2 x) := by
  rw [take_snoc xs k hk x hx]
  exact ⟨cvs_snoc _ _, cst_snoc _ _⟩
theorem cvs_prefix (xs : List Int) (k : Nat) : cvs (xs.take k) <+: cvs xs := by
  refine ⟨(cvs xs).drop k, ?_⟩
  have : cvs (xs.take k) = (cvs xs).take k := by
    unfold cvs
    rw [← List.map_take, List.take_range, List.length_take, Nat.min_comm]
    apply List.map_congr_left
    intro i hi
    rw [List.mem_range] at hi
    rw [List.take_take, Nat.min_eq_left (by omega)]
  rw [this, List.take_append_drop]
end Go.Proofs.Ytejghidllochoaa
