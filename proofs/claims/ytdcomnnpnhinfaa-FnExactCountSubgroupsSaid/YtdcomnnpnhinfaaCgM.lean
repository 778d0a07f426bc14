/- Numbers of subgroups: the tables up to 12 points. Mathematics only, checked by the kernel. -/
import Derived.Test.YtdcomnnpnhinfaaRows
namespace Go.Proofs.Ytdcomnnpnhinfaa
/-- permutations of k points of the order 2, of the order 3, pairs of both, and the actions among these -/
def t2L : List Int := [1, 1, 2, 4, 10, 26, 76, 232, 764, 2620, 9496, 35696, 140152]
def t3L : List Int := [1, 1, 1, 3, 9, 21, 81, 351, 1233, 5769, 31041, 142011, 776601]
def prL : List Int := [1, 1, 2, 12, 90, 546, 6156, 81432, 942012, 15114780, 294765336, 5069224656, 108842183352]
def acL : List Int := [0, 1, 1, 8, 48, 120, 2640, 30240, 201600, 4838400, 96163200, 1037836800, 30496435200]
def sbL : List Int := [0, 1, 1, 4, 8, 5, 22, 42, 40, 120, 265, 286, 764]
def t2 (k : Nat) : Int := t2L.getD k 0
def t3 (k : Nat) : Int := t3L.getD k 0
def prk (k : Nat) : Int := prL.getD k 0
def acs (k : Nat) : Int := acL.getD k 0
/-- the ways to choose k - 1 of m - 1 points -/
def chw (m : Nat) : Nat → Int
  | 0 => 1
  | k + 1 => if k = 0 then 1 else (chw m k * ((m : Int) - (k : Int))).tdiv (k : Int)
/-- pairs of m points, less the actions of 1 to k - 1 points -/
def owk (m : Nat) : Nat → Int
  | 0 => prk m
  | k + 1 => if k = 0 then prk m else owk m k - chw m k * acs k * prk (m - k)
theorem t2_step : ∀ k < 13, 2 ≤ k → t2 k = t2 (k - 1) + ((k : Int) - 1) * t2 (k - 2) := by decide
theorem t3_step : ∀ k < 13, 3 ≤ k → t3 k = t3 (k - 1) + ((k : Int) - 1) * ((k : Int) - 2) * t3 (k - 3) := by decide
theorem t_low : t2 0 = 1 ∧ t2 1 = 1 ∧ t3 0 = 1 ∧ t3 1 = 1 ∧ t3 2 = 1 ∧ prk 0 = 1 ∧ acs 0 = 0 := by decide
theorem pr_step : ∀ k < 13, prk k = t2 k * t3 k := by decide
theorem t_bd : ∀ k < 13, 0 ≤ t2 k ∧ t2 k ≤ 140152 ∧ 0 ≤ t3 k ∧ t3 k ≤ 776601 ∧ 0 ≤ prk k ∧ prk k ≤ 108842183352 ∧ 0 ≤ acs k ∧ acs k ≤ 30496435200 := by decide
theorem ow_end : ∀ m < 13, 1 ≤ m → owk m m = acs m := by decide +kernel
theorem ch_bd : ∀ m < 13, ∀ k < m, 1 ≤ k → 0 ≤ chw m k ∧ chw m k ≤ 462 ∧ 0 ≤ chw m k * acs k ∧ chw m k * acs k ≤ 1000000000000 := by decide +kernel
theorem ch_bd2 : ∀ m < 13, ∀ k < m, 1 ≤ k → 0 ≤ chw m k * acs k * prk (m - k) ∧ chw m k * acs k * prk (m - k) ≤ 1000000000000 ∧ 0 ≤ chw m k * ((m : Int) - (k : Int)) ∧ chw m k * ((m : Int) - (k : Int)) ≤ 10000 := by decide +kernel
theorem ch_at : ∀ m < 13, ∀ k < m, 1 ≤ k → chw m (k + 1) = (chw m k * ((m : Int) - (k : Int))).tdiv (k : Int) ∧ owk m (k + 1) = owk m k - chw m k * acs k * prk (m - k) := by decide +kernel
theorem ow_bd : ∀ m < 13, ∀ k < m, 1 ≤ k → 0 ≤ owk m k ∧ owk m k ≤ 108842183352 ∧ 0 ≤ owk m (k + 1) ∧ owk m (k + 1) ≤ 108842183352 := by decide +kernel
theorem spec_mul : ∀ m < 13, ∀ k < m, 1 ≤ k → chw m k * acs k * t2 (m - k) * t3 (m - k) = chw m k * acs k * prk (m - k) ∧ 0 ≤ chw m k * acs k * t2 (m - k) ∧ chw m k * acs k * t2 (m - k) ≤ 1000000000000 := by decide +kernel
/-- what is left behind the divisions by 2 .. k - 1 -/
def dvk (n : Nat) : Nat → Int
  | 0 => acs n
  | k + 1 => if k < 2 then acs n else (dvk n k).tdiv (k : Int)
def fck : Nat → Int
  | 0 => 1
  | m + 1 => if m < 2 then 1 else fck m * ((m : Int) - 1)
theorem dv_end : ∀ n < 13, 1 ≤ n → dvk n n = sbL.getD n 0 ∧ (acs n).tdiv (fck (n + 1)) = sbL.getD n 0 ∧ fck (n + 1) ≠ 0 := by decide +kernel
theorem dv_at : ∀ n < 13, ∀ k < n, 2 ≤ k → dvk n (k + 1) = (dvk n k).tdiv (k : Int) ∧ 0 ≤ dvk n k ∧ dvk n k ≤ 30496435200 := by decide +kernel
theorem fc_at : ∀ m < 13, 1 ≤ m → (m = 1 → fck (m + 1) = fck m) ∧ (2 ≤ m → fck (m + 1) = fck m * ((m : Int) - 1)) := by decide +kernel
theorem fc_bd : ∀ m < 14, 0 ≤ fck m ∧ fck m ≤ 39916800 := by decide +kernel
end Go.Proofs.Ytdcomnnpnhinfaa
