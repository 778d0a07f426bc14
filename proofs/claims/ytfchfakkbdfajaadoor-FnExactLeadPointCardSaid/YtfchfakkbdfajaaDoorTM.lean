/- Contract of spec.l01Times. -/
import Derived.Test.YtfchfakkbdfajaaDoorMat
import Derived.Test.YtfchfakkbdfajaaDoorMul
namespace Go.Proofs.YtfchfakkbdfajaaDoor
open Go.ChangeShapes Go.WideShapes Go.ChangeAt Go.RowKit

/-- What l01Times comes to. -/
def TM (p m q : Mat) (b : Bool) : Prop := ((p.mul m).ok = true ∧ q = p.mul m ∧ b = true) ∨ ((p.mul m).ok = false ∧ q = Mat.zero ∧ b = false)
theorem TM.any (p m : Mat) : ∃ q b, TM p m q b := by
  rcases h : (p.mul m).ok with _ | _
  · exact ⟨_, _, .inr ⟨h, rfl, rfl⟩⟩
  · exact ⟨_, _, .inl ⟨h, rfl, rfl⟩⟩
end Go.Proofs.YtfchfakkbdfajaaDoor
