/- impl.powerBySquares: contract. -/
import Derived.Test.YtmlbbhhjjepmkaaDoorPow
import Derived.Test.YtmlbbhhjjepmkaaDoorPA
namespace Go.Proofs.YtmlbbhhjjepmkaaDoor
open Go.ChangeShapes Go.WideShapes Go.ChangeAt Go.RowKit

theorem PA_yes {p m : Mat} (hp : p.is = true) (hm : m.is = true) (h : (p.mul m).ok = true) : PA [p, m] (p.mul m) 0 := by
  refine .inr (.inr ⟨by simp [hp, hm], ?_, rfl⟩)
  rw [prod, Mat.one_mul', if_pos (Mat.is_ok hp), prod, if_pos h, prod]
theorem PA_no {p m : Mat} (hp : p.is = true) (hm : m.is = true) (h : (p.mul m).ok = false) : PA [p, m] Mat.zero 3 := by
  refine .inr (.inl ⟨by simp [hp, hm], ?_, rfl, rfl⟩)
  rw [prod, Mat.one_mul', if_pos (Mat.is_ok hp), prod, if_neg (by simp [h])]
/-- What powers by squares come to. -/
def PB (p m : Mat) (k : Nat) (r : Mat) (c : Int) : Prop := (pbs p m k = none ∧ r = Mat.zero ∧ c = 3) ∨ (pbs p m k = some r ∧ c = 0)
theorem PB.none {p m r : Mat} {k : Nat} {c : Int} (h : PB p m k r c) (e : pbs p m k = none) : r = Mat.zero ∧ c = 3 := by
  rcases h with ⟨_, h1, h2⟩ | ⟨h1, _⟩
  · exact ⟨h1, h2⟩
  · rw [e] at h1; cases h1
theorem PB.some {p m r q : Mat} {k : Nat} {c : Int} (h : PB p m k r c) (e : pbs p m k = some q) : r = q ∧ c = 0 := by
  rcases h with ⟨h1, _⟩ | ⟨h1, h2⟩
  · rw [e] at h1; cases h1
  · rw [e] at h1; injection h1 with h1; exact ⟨h1.symm, h2⟩
theorem PB.ex (p m : Mat) (k : Nat) : ∃ r c, PB p m k r c := by
  rcases h : pbs p m k with _ | r
  · exact ⟨_, _, .inl ⟨h, rfl, rfl⟩⟩
  · exact ⟨r, 0, .inr ⟨h, rfl⟩⟩
theorem PB.go {p m p' m' r : Mat} {k k' : Nat} {c : Int} (h : PB p m k r c) (e : pbs p m k = pbs p' m' k') : PB p' m' k' r c := by
  unfold PB at *; rwa [e] at h

end Go.Proofs.YtmlbbhhjjepmkaaDoor
