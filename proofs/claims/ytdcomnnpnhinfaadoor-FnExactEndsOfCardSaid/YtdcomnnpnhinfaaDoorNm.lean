/- Normal pairs: mathematics. No program is read here. -/
import Derived.Test.YtdcomnnpnhinfaaDoorUn
import Derived.Test.YtdcomnnpnhinfaaDoorRest
namespace Go.Proofs.YtdcomnnpnhinfaaDoor
open Go.ChangeShapes Go.WideShapes Go.ChangeAt Go.RowKit

/-- whether the first pair is less -/
def lss2 (a b x y : Int) : Bool := decide (a < x) || (decide (a = x) && decide (b < y))
/-- the lesser one of u times x y, and q -/
def stp (n x y u : Int) (q : Int × Int) : Int × Int := if lss2 (u * x % n) (u * y % n) q.1 q.2 = true then (u * x % n, u * y % n) else q
def bst (n x y : Int) : List Int → Int × Int → Int × Int
  | [], q => q
  | u :: r, q => bst n x y r (stp n x y u q)
theorem bst_append (n x y : Int) : ∀ (l r : List Int) (q : Int × Int), bst n x y (l ++ r) q = bst n x y r (bst n x y l q)
  | [], _, _ => rfl
  | _ :: l, r, _ => bst_append n x y l r _
/-- the normal pair of two rests -/
def nrm (n x y : Int) : Int × Int := bst n x y (cop n n.toNat) (x, y)
/-- two rests by n -/
def Rst2 (n : Int) (q : Int × Int) : Prop := 0 ≤ q.1 ∧ q.1 < n ∧ 0 ≤ q.2 ∧ q.2 < n
theorem stp_rst {n x y u : Int} {q : Int × Int} (hn : 1 ≤ n) (h : Rst2 n q) : Rst2 n (stp n x y u q) := by
  unfold stp
  split
  · exact ⟨Int.emod_nonneg _ (by omega), Int.emod_lt_of_pos _ (by omega), Int.emod_nonneg _ (by omega), Int.emod_lt_of_pos _ (by omega)⟩
  · exact h
theorem bst_rst {n x y : Int} (hn : 1 ≤ n) : ∀ (l : List Int) (q : Int × Int), Rst2 n q → Rst2 n (bst n x y l q)
  | [], _, h => h
  | _ :: l, _, h => bst_rst hn l _ (stp_rst hn h)
theorem rst_bd {x n : Int} (hn : 1 ≤ n) : 0 ≤ rst x n ∧ rst x n < n := ⟨Int.emod_nonneg _ (by omega), Int.emod_lt_of_pos _ (by omega)⟩
theorem rst_emod (x n : Int) (hn : 1 ≤ n) : rst x n = x % n := by
  unfold rst
  rw [Int.add_emod_right]
  rw [Int.tmod_eq_emod]
  split
  · simp
  · rw [Int.sub_emod, Int.emod_emod]
    have : ((n.natAbs : Int)) % n = 0 := by
      have : (n.natAbs : Int) = n := by omega
      rw [this]; simp
    rw [this]
    simp
theorem mul60 {u x : Int} (h1 : 0 ≤ u ∧ u ≤ 60) (h2 : 0 ≤ x ∧ x ≤ 60) : 0 ≤ u * x ∧ u * x ≤ 3600 := by
  have a := Int.mul_nonneg h1.1 h2.1
  have b := Int.mul_le_mul h1.2 h2.2 h2.1 (by omega : (0 : Int) ≤ 60)
  omega
/-- common divisors are those of the rests -/
theorem gcd_emod (x n : Int) : Int.gcd (x % n) n = Int.gcd x n := by
  have h := Int.emod_add_mul_ediv x n
  conv => rhs; rw [← h]
  rw [Int.gcd_add_mul_left_left]
theorem gcd3_comm (a b n : Int) : Int.gcd (Int.gcd a b : Int) n = Int.gcd (Int.gcd a n : Int) b := by
  rw [Int.gcd_assoc, Int.gcd_comm b n, ← Int.gcd_assoc]
theorem gcd3_emod (a b n : Int) : Int.gcd (Int.gcd (a % n) (b % n) : Int) n = Int.gcd (Int.gcd a b : Int) n := by
  rw [gcd3_comm, gcd_emod, gcd3_comm, Int.gcd_comm a, gcd3_comm, gcd_emod, gcd3_comm, Int.gcd_comm b]
theorem isP_rst (n c d : Int) (hn : 1 ≤ n) : isP n (rst c n) (rst d n) = isP n c d := by
  unfold isP
  rw [rst_emod _ _ hn, rst_emod _ _ hn, gcd3_emod]
end Go.Proofs.YtdcomnnpnhinfaaDoor
