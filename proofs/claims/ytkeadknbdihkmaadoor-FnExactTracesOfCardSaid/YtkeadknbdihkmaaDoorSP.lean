/- Contract of spec.l01Product. -/
import Derived.Test.YtkeadknbdihkmaaDoorMat
import Derived.Test.YtkeadknbdihkmaaDoorTM
namespace Go.Proofs.YtkeadknbdihkmaaDoor
open Go.ChangeShapes Go.WideShapes Go.ChangeAt Go.RowKit

theorem sp_drop_yes {ms : List Mat} {p : Mat} {k : Nat} (hk : k < ms.length) (h : (p.mul ms[k]).ok = true) : prod p (ms.drop k) = prod (p.mul ms[k]) (ms.drop (k + 1)) := by
  rw [List.drop_eq_getElem_cons hk, prod, if_pos h]
theorem sp_drop_no {ms : List Mat} {p : Mat} {k : Nat} (hk : k < ms.length) (h : (p.mul ms[k]).ok = false) : prod p (ms.drop k) = none := by
  rw [List.drop_eq_getElem_cons hk, prod, if_neg (by simp [h])]
theorem sp_drop_end {ms : List Mat} {p : Mat} : prod p (ms.drop ms.length) = some p := by
  rw [List.drop_of_length_le (Nat.le_refl _), prod]
/-- What the product of a list of matrices, from its first one on, comes to. -/
def SP (ms : List Mat) (r : Mat) (k : Int) : Prop :=
  ∃ h : 0 < ms.length, (prod ms[0] (ms.drop 1) = none ∧ r = Mat.zero ∧ k = 3) ∨ (prod ms[0] (ms.drop 1) = some r ∧ k = 0)

end Go.Proofs.YtkeadknbdihkmaaDoor
