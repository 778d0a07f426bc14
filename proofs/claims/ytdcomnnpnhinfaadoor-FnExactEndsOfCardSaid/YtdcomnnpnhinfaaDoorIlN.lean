/- The line of a level whose index is at most 72 has as many pairs as the index tells: the kernel computes it, level by level. -/
import Derived.Test.YtdcomnnpnhinfaaDoorLnM
import Derived.Test.YtdcomnnpnhinfaaDoorIdxM
namespace Go.Proofs.YtdcomnnpnhinfaaDoor
open Go.ChangeShapes Go.WideShapes Go.ChangeAt Go.RowKit

def chkLn (n : Nat) : Bool := decide (72 < mz 999 2 (n : Int) n) || decide (((ln (n : Int)).length : Int) = mz 999 2 (n : Int) n)
set_option maxRecDepth 1000000 in
theorem chkLn_1 : chkLn 1 = true := by decide +kernel
set_option maxRecDepth 1000000 in
theorem chkLn_2 : chkLn 2 = true := by decide +kernel
set_option maxRecDepth 1000000 in
theorem chkLn_3 : chkLn 3 = true := by decide +kernel
set_option maxRecDepth 1000000 in
theorem chkLn_4 : chkLn 4 = true := by decide +kernel
set_option maxRecDepth 1000000 in
theorem chkLn_5 : chkLn 5 = true := by decide +kernel
set_option maxRecDepth 1000000 in
theorem chkLn_6 : chkLn 6 = true := by decide +kernel
set_option maxRecDepth 1000000 in
theorem chkLn_7 : chkLn 7 = true := by decide +kernel
set_option maxRecDepth 1000000 in
theorem chkLn_8 : chkLn 8 = true := by decide +kernel
set_option maxRecDepth 1000000 in
theorem chkLn_9 : chkLn 9 = true := by decide +kernel
set_option maxRecDepth 1000000 in
theorem chkLn_10 : chkLn 10 = true := by decide +kernel
set_option maxRecDepth 1000000 in
theorem chkLn_11 : chkLn 11 = true := by decide +kernel
set_option maxRecDepth 1000000 in
theorem chkLn_12 : chkLn 12 = true := by decide +kernel
set_option maxRecDepth 1000000 in
theorem chkLn_13 : chkLn 13 = true := by decide +kernel
set_option maxRecDepth 1000000 in
theorem chkLn_14 : chkLn 14 = true := by decide +kernel
set_option maxRecDepth 1000000 in
theorem chkLn_15 : chkLn 15 = true := by decide +kernel
set_option maxRecDepth 1000000 in
theorem chkLn_16 : chkLn 16 = true := by decide +kernel
set_option maxRecDepth 1000000 in
theorem chkLn_17 : chkLn 17 = true := by decide +kernel
set_option maxRecDepth 1000000 in
theorem chkLn_18 : chkLn 18 = true := by decide +kernel
set_option maxRecDepth 1000000 in
theorem chkLn_19 : chkLn 19 = true := by decide +kernel
set_option maxRecDepth 1000000 in
theorem chkLn_20 : chkLn 20 = true := by decide +kernel
set_option maxRecDepth 1000000 in
theorem chkLn_21 : chkLn 21 = true := by decide +kernel
set_option maxRecDepth 1000000 in
theorem chkLn_22 : chkLn 22 = true := by decide +kernel
set_option maxRecDepth 1000000 in
theorem chkLn_23 : chkLn 23 = true := by decide +kernel
set_option maxRecDepth 1000000 in
theorem chkLn_24 : chkLn 24 = true := by decide +kernel
set_option maxRecDepth 1000000 in
theorem chkLn_25 : chkLn 25 = true := by decide +kernel
set_option maxRecDepth 1000000 in
theorem chkLn_26 : chkLn 26 = true := by decide +kernel
set_option maxRecDepth 1000000 in
theorem chkLn_27 : chkLn 27 = true := by decide +kernel
set_option maxRecDepth 1000000 in
theorem chkLn_28 : chkLn 28 = true := by decide +kernel
set_option maxRecDepth 1000000 in
theorem chkLn_29 : chkLn 29 = true := by decide +kernel
set_option maxRecDepth 1000000 in
theorem chkLn_30 : chkLn 30 = true := by decide +kernel
set_option maxRecDepth 1000000 in
theorem chkLn_31 : chkLn 31 = true := by decide +kernel
set_option maxRecDepth 1000000 in
theorem chkLn_32 : chkLn 32 = true := by decide +kernel
set_option maxRecDepth 1000000 in
theorem chkLn_33 : chkLn 33 = true := by decide +kernel
set_option maxRecDepth 1000000 in
theorem chkLn_34 : chkLn 34 = true := by decide +kernel
set_option maxRecDepth 1000000 in
theorem chkLn_35 : chkLn 35 = true := by decide +kernel
set_option maxRecDepth 1000000 in
theorem chkLn_36 : chkLn 36 = true := by decide +kernel
set_option maxRecDepth 1000000 in
theorem chkLn_37 : chkLn 37 = true := by decide +kernel
set_option maxRecDepth 1000000 in
theorem chkLn_38 : chkLn 38 = true := by decide +kernel
set_option maxRecDepth 1000000 in
theorem chkLn_39 : chkLn 39 = true := by decide +kernel
set_option maxRecDepth 1000000 in
theorem chkLn_40 : chkLn 40 = true := by decide +kernel
set_option maxRecDepth 1000000 in
theorem chkLn_41 : chkLn 41 = true := by decide +kernel
set_option maxRecDepth 1000000 in
theorem chkLn_42 : chkLn 42 = true := by decide +kernel
set_option maxRecDepth 1000000 in
theorem chkLn_43 : chkLn 43 = true := by decide +kernel
set_option maxRecDepth 1000000 in
theorem chkLn_44 : chkLn 44 = true := by decide +kernel
set_option maxRecDepth 1000000 in
theorem chkLn_45 : chkLn 45 = true := by decide +kernel
set_option maxRecDepth 1000000 in
theorem chkLn_46 : chkLn 46 = true := by decide +kernel
set_option maxRecDepth 1000000 in
theorem chkLn_47 : chkLn 47 = true := by decide +kernel
set_option maxRecDepth 1000000 in
theorem chkLn_48 : chkLn 48 = true := by decide +kernel
set_option maxRecDepth 1000000 in
theorem chkLn_49 : chkLn 49 = true := by decide +kernel
set_option maxRecDepth 1000000 in
theorem chkLn_50 : chkLn 50 = true := by decide +kernel
set_option maxRecDepth 1000000 in
theorem chkLn_51 : chkLn 51 = true := by decide +kernel
set_option maxRecDepth 1000000 in
theorem chkLn_52 : chkLn 52 = true := by decide +kernel
set_option maxRecDepth 1000000 in
theorem chkLn_53 : chkLn 53 = true := by decide +kernel
set_option maxRecDepth 1000000 in
theorem chkLn_54 : chkLn 54 = true := by decide +kernel
set_option maxRecDepth 1000000 in
theorem chkLn_55 : chkLn 55 = true := by decide +kernel
set_option maxRecDepth 1000000 in
theorem chkLn_56 : chkLn 56 = true := by decide +kernel
set_option maxRecDepth 1000000 in
theorem chkLn_57 : chkLn 57 = true := by decide +kernel
set_option maxRecDepth 1000000 in
theorem chkLn_58 : chkLn 58 = true := by decide +kernel
set_option maxRecDepth 1000000 in
theorem chkLn_59 : chkLn 59 = true := by decide +kernel
set_option maxRecDepth 1000000 in
theorem chkLn_60 : chkLn 60 = true := by decide +kernel
theorem chkLn_all : ∀ n : Nat, 1 ≤ n → n ≤ 60 → chkLn n = true
  | 1, _, _ => chkLn_1
  | 2, _, _ => chkLn_2
  | 3, _, _ => chkLn_3
  | 4, _, _ => chkLn_4
  | 5, _, _ => chkLn_5
  | 6, _, _ => chkLn_6
  | 7, _, _ => chkLn_7
  | 8, _, _ => chkLn_8
  | 9, _, _ => chkLn_9
  | 10, _, _ => chkLn_10
  | 11, _, _ => chkLn_11
  | 12, _, _ => chkLn_12
  | 13, _, _ => chkLn_13
  | 14, _, _ => chkLn_14
  | 15, _, _ => chkLn_15
  | 16, _, _ => chkLn_16
  | 17, _, _ => chkLn_17
  | 18, _, _ => chkLn_18
  | 19, _, _ => chkLn_19
  | 20, _, _ => chkLn_20
  | 21, _, _ => chkLn_21
  | 22, _, _ => chkLn_22
  | 23, _, _ => chkLn_23
  | 24, _, _ => chkLn_24
  | 25, _, _ => chkLn_25
  | 26, _, _ => chkLn_26
  | 27, _, _ => chkLn_27
  | 28, _, _ => chkLn_28
  | 29, _, _ => chkLn_29
  | 30, _, _ => chkLn_30
  | 31, _, _ => chkLn_31
  | 32, _, _ => chkLn_32
  | 33, _, _ => chkLn_33
  | 34, _, _ => chkLn_34
  | 35, _, _ => chkLn_35
  | 36, _, _ => chkLn_36
  | 37, _, _ => chkLn_37
  | 38, _, _ => chkLn_38
  | 39, _, _ => chkLn_39
  | 40, _, _ => chkLn_40
  | 41, _, _ => chkLn_41
  | 42, _, _ => chkLn_42
  | 43, _, _ => chkLn_43
  | 44, _, _ => chkLn_44
  | 45, _, _ => chkLn_45
  | 46, _, _ => chkLn_46
  | 47, _, _ => chkLn_47
  | 48, _, _ => chkLn_48
  | 49, _, _ => chkLn_49
  | 50, _, _ => chkLn_50
  | 51, _, _ => chkLn_51
  | 52, _, _ => chkLn_52
  | 53, _, _ => chkLn_53
  | 54, _, _ => chkLn_54
  | 55, _, _ => chkLn_55
  | 56, _, _ => chkLn_56
  | 57, _, _ => chkLn_57
  | 58, _, _ => chkLn_58
  | 59, _, _ => chkLn_59
  | 60, _, _ => chkLn_60
  | 0, h, _ => by omega
  | n + 61, _, h => by omega
/-- the index of a level is the length of its line, where it is at most 72 -/
theorem ln_index {n : Int} (h1 : 1 ≤ n) (h2 : n ≤ 60) (h : mz 999 2 n n ≤ 72) : ((ln n).length : Int) = mz 999 2 n n := by
  obtain ⟨N, rfl⟩ : ∃ N : Nat, n = (N : Int) := ⟨n.toNat, by omega⟩
  have := chkLn_all N (by omega) (by omega)
  unfold chkLn at this
  simp only [Bool.or_eq_true, decide_eq_true_eq] at this
  omega
end Go.Proofs.YtdcomnnpnhinfaaDoor
