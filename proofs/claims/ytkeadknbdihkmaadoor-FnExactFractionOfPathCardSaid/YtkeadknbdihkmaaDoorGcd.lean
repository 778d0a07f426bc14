/- Contracts of the greatest common divisor. -/
import Derived.Test.YtkeadknbdihkmaaDoorAbs
namespace Go.Proofs.YtkeadknbdihkmaaDoor
open Go.ChangeShapes Go.WideShapes Go.ChangeAt Go.RowKit

/-- a number far enough from the ends of int64 -/
def Mid (x : Int) : Prop := -4000000000000000000 ≤ x ∧ x ≤ 4000000000000000000
theorem gcd_step (a b : Int) : Int.gcd b (a.tmod b) = Int.gcd a b := by
  unfold Int.gcd
  rw [Int.natAbs_tmod, Nat.gcd_comm, ← Nat.gcd_rec, Nat.gcd_comm]
theorem tmod_mid {a b : Int} (hb : b ≠ 0) (hm : Mid b) : Mid (a.tmod b) ∧ (a.tmod b).natAbs < b.natAbs := by
  have h3 : (a.tmod b).natAbs = a.natAbs % b.natAbs := Int.natAbs_tmod a b
  have h4 : a.natAbs % b.natAbs < b.natAbs := Nat.mod_lt _ (by omega)
  unfold Mid at *
  omega

end Go.Proofs.YtkeadknbdihkmaaDoor
