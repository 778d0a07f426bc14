/- Contracts of ProductOf. -/
import Derived.Test.YtmlbbhhjjepmkaaDoorPA
import Derived.Test.YtmlbbhhjjepmkaaDoorSP
namespace Go.Proofs.YtmlbbhhjjepmkaaDoor
open Go.ChangeShapes Go.WideShapes Go.ChangeAt Go.RowKit

theorem Mat.one_mul (m : Mat) : Mat.one.mul m = m := by
  cases m; simp [Mat.one, Mat.mul]
/-- Both sides of a product: of matrices, PA is what SP says. -/
theorem SP_of_PA {ms : List Mat} {r : Mat} {k : Int} (h0 : 0 < ms.length) (ha : ms.all Mat.is = true) (h : PA ms r k) : SP ms r k := by
  have e : prod Mat.one ms = prod ms[0] (ms.drop 1) := by
    cases ms with
    | nil => simp at h0
    | cons m t =>
      have hm : m.is = true := by simp at ha; exact ha.1
      rw [prod, Mat.one_mul, if_pos (Mat.is_ok hm)]
      rfl
  refine ⟨h0, ?_⟩
  rw [← e]
  exact PA_good h ha
theorem PA_ex (ms : List Mat) : ∃ r k, PA ms r k := by
  rcases ha : ms.all Mat.is with _ | _
  · exact ⟨_, _, .inl ⟨ha, rfl, rfl⟩⟩
  · rcases hp : prod Mat.one ms with _ | r
    · exact ⟨_, _, .inr (.inl ⟨ha, hp, rfl, rfl⟩)⟩
    · exact ⟨r, _, .inr (.inr ⟨ha, hp, rfl⟩)⟩

theorem l01Is_m (r : Bool) (m : Mat) (h : m.is = r) (w : World) :
    Calls Tryd.prog 22 #[(.agg #[.int .i64 m.a, .int .i64 m.b, .int .i64 m.c, .int .i64 m.d])] w fun e w' => e = .returned (.bool r) ∧ Below w.heap.size w w' := l01Is_is r m.a m.b m.c m.d w h
theorem PA_not {ms : List Mat} {r : Mat} {k : Int} (h : PA ms r k) (ha : ms.all Mat.is = false) : r = Mat.zero ∧ k = 1 := by
  rcases h with ⟨_, h1, h2⟩ | ⟨h, _⟩ | ⟨h, _⟩
  · exact ⟨h1, h2⟩
  · rw [ha] at h; cases h
  · rw [ha] at h; cases h

end Go.Proofs.YtmlbbhhjjepmkaaDoor
