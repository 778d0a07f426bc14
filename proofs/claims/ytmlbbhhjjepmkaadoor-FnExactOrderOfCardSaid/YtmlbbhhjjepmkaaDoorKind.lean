/- Contracts of KindOf. -/
import Derived.Test.YtmlbbhhjjepmkaaDoorPA
import Derived.Test.YtmlbbhhjjepmkaaDoorTr
import Derived.Test.YtmlbbhhjjepmkaaDoorAbs
import Derived.Test.YtmlbbhhjjepmkaaDoorEqM
namespace Go.Proofs.YtmlbbhhjjepmkaaDoor
open Go.ChangeShapes Go.WideShapes Go.ChangeAt Go.RowKit

/-- the kind of a matrix -/
def kind (a b c d : Int) : Int := if b = 0 ∧ c = 0 then 0 else if (a + d).natAbs < 2 then 1 else if (a + d).natAbs = 2 then 2 else 3

theorem unit_mul {a d : Int} (h : a * d = 1) : (a = 1 ∧ d = 1) ∨ (a = -1 ∧ d = -1) := by
  have h1 : a.natAbs * d.natAbs = 1 := by rw [← Int.natAbs_mul, h]; rfl
  have h2 : a.natAbs = 1 := Nat.eq_one_of_mul_eq_one_right h1
  have h3 : d.natAbs = 1 := Nat.eq_one_of_mul_eq_one_left h1
  rcases (show a = 1 ∨ a = -1 by omega) with rfl | rfl
  · left; omega
  · right; omega
end Go.Proofs.YtmlbbhhjjepmkaaDoor
