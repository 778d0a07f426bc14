/- spec.l01Power: contract. -/
import Derived.Test.YtmlbbhhjjepmkaaDoorPow
import Derived.Test.YtmlbbhhjjepmkaaDoorTM
import Derived.Test.YtmlbbhhjjepmkaaDoorSKind
namespace Go.Proofs.YtmlbbhhjjepmkaaDoor
open Go.ChangeShapes Go.WideShapes Go.ChangeAt Go.RowKit

theorem l01Kind_is (k : Int) (a b c d : Int) (ea : Ent a) (ed : Ent d) (hk : kind a b c d = k) (w : World) :
    Calls Tryd.prog 23 #[(.agg #[.int .i64 a, .int .i64 b, .int .i64 c, .int .i64 d])] w fun e w' => e = .returned (.int .i64 k) ∧ Below w.heap.size w w' := hk ▸ l01Kind_any a b c d ea ed w
theorem TM_yes {p m q : Mat} (hok : (p.mul m).ok = true) (hq : p.mul m = q) : TM p m q true := .inl ⟨hok, hq.symm, rfl⟩
theorem TM_no {p m : Mat} (hok : (p.mul m).ok = false) : TM p m Mat.zero false := .inr ⟨hok, rfl, rfl⟩

/-- What spec.l01Power gives back: the power, or that it is too great. -/
def PS (m : Mat) (k : Nat) (x : Mat) (b : Bool) : Prop := (pbs Mat.one m k = some x ∧ b = true) ∨ (pbs Mat.one m k = none ∧ b = false)

/-- What a round of the second loop keeps. -/
def PI (m0 : Mat) (k0 : Nat) (b : Bool) (p m : Mat) (k : Nat) : Prop := (b = true ∧ pbs Mat.one m0 k0 = pbs p m k ∧ p.is = true ∧ m.is = true) ∨ (b = false ∧ pbs Mat.one m0 k0 = none)
end Go.Proofs.YtmlbbhhjjepmkaaDoor
