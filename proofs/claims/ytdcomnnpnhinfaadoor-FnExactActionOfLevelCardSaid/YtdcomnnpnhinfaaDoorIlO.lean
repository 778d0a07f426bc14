/- The line of the levels whose index is greater than 72: the kernel computes it, level by level. -/
import Derived.Test.YtdcomnnpnhinfaaDoorLnM
import Derived.Test.YtdcomnnpnhinfaaDoorIdxM
namespace Go.Proofs.YtdcomnnpnhinfaaDoor
open Go.ChangeShapes Go.WideShapes Go.ChangeAt Go.RowKit

def chkLq (n : Nat) : Bool := decide (((ln (n : Int)).length : Int) = mz 999 2 (n : Int) n)
set_option maxRecDepth 1000000 in
theorem chkLq_42 : chkLq 42 = true := by decide +kernel
set_option maxRecDepth 1000000 in
theorem chkLq_48 : chkLq 48 = true := by decide +kernel
set_option maxRecDepth 1000000 in
theorem chkLq_50 : chkLq 50 = true := by decide +kernel
set_option maxRecDepth 1000000 in
theorem chkLq_52 : chkLq 52 = true := by decide +kernel
set_option maxRecDepth 1000000 in
theorem chkLq_54 : chkLq 54 = true := by decide +kernel
set_option maxRecDepth 1000000 in
theorem chkLq_56 : chkLq 56 = true := by decide +kernel
set_option maxRecDepth 1000000 in
theorem chkLq_57 : chkLq 57 = true := by decide +kernel
set_option maxRecDepth 1000000 in
theorem chkLq_58 : chkLq 58 = true := by decide +kernel
set_option maxRecDepth 1000000 in
theorem chkLq_60 : chkLq 60 = true := by decide +kernel
set_option maxRecDepth 1000000 in
theorem big_levels : ∀ n : Nat, n < 61 → 1 ≤ n → 72 < mz 999 2 (n : Int) n → n ∈ [42, 48, 50, 52, 54, 56, 57, 58, 60] := by decide +kernel
theorem chkLq_all (n : Nat) (h1 : 1 ≤ n) (h2 : n ≤ 60) (h : 72 < mz 999 2 (n : Int) n) : ((ln (n : Int)).length : Int) = mz 999 2 (n : Int) n := by
  have hb := big_levels n (by omega) h1 h
  simp only [List.mem_cons, List.not_mem_nil, or_false] at hb
  rcases hb with rfl | rfl | rfl | rfl | rfl | rfl | rfl | rfl | rfl
  · exact of_decide_eq_true chkLq_42
  · exact of_decide_eq_true chkLq_48
  · exact of_decide_eq_true chkLq_50
  · exact of_decide_eq_true chkLq_52
  · exact of_decide_eq_true chkLq_54
  · exact of_decide_eq_true chkLq_56
  · exact of_decide_eq_true chkLq_57
  · exact of_decide_eq_true chkLq_58
  · exact of_decide_eq_true chkLq_60
end Go.Proofs.YtdcomnnpnhinfaaDoor
