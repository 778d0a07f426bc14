/- The walk of the law FnExactOrderOf. -/
import Derived.Test.YtmlbbhhjjepmkaaDoorOrdO
import Derived.Test.YtmlbbhhjjepmkaaDoorLoOrderOf
namespace Go.Proofs.YtmlbbhhjjepmkaaDoor
open Go.ChangeShapes Go.WideShapes Go.ChangeAt Go.RowKit

theorem kind_smallO {a b c d : Int} (h : kind a b c d < 2) : (b = 0 ∧ c = 0) ∨ (a + d).natAbs < 2 := by
  unfold kind at h
  split at h
  · exact .inl ‹_›
  · split at h
    · exact .inr ‹_›
    · split at h <;> omega
theorem lawOrderOf_walk (a b c d : Int) (_ : I64 a) (_ : I64 b) (_ : I64 c) (_ : I64 d) (w : World) (hid : Idn w) :
    Calls Tryd.prog 4 #[(.agg #[.int .i64 a, .int .i64 b, .int .i64 c, .int .i64 d])] w fun e w' => e = .returned (.bool true) ∧ Below w.heap.size w w' := by
  rcases hm : isM a b c d with _ | _
  · exact lawOrderOf_of a b c d 0 1 (fun w => specOrder_no ⟨a, b, c, d⟩ hm w) (fun w _ => implOrder_no ⟨a, b, c, d⟩ hm w) w hid
  have hdet : (⟨a, b, c, d⟩ : Mat).det = 1 := (isM_ent hm).2.2.2.2
  by_cases hk : kind a b c d < 2
  · obtain ⟨o, h1, h6, ho, hmin⟩ := Mat.order_ex hm (kind_smallO hk)
    have hall := Mat.small_ok hm (kind_smallO hk)
    refine lawOrderOf_of a b c d o 0 (fun w => specOrder_small ⟨a, b, c, d⟩ hm _ rfl (by show kind a b c d ≤ 1; omega) hall o h1 h6 ho hmin w)
      (fun w hid => implOrder_is true ⟨a, b, c, d⟩ hm o (fun J hFE hok => ?_) 0 (.inl ⟨rfl, rfl⟩) w hid) w hid
    obtain ⟨hoJ, huni⟩ := hFE.small hdet hall h1 h6 ho hmin
    rcases hf : fP ⟨a, b, c, d⟩ J (kM Mat.one) with _ | x
    · exact absurd ho (fP_none hf o h1 hoJ)
    · obtain ⟨i, z1, z2, z3, z4⟩ := fP_some (by decide) hok hf
      rw [huni i z1 z2 z4] at z3
      exact ⟨z3, rfl⟩
  · refine lawOrderOf_of a b c d 0 4 (fun w => specOrder_big ⟨a, b, c, d⟩ hm _ rfl (by show 1 < kind a b c d; omega) w)
      (fun w hid => implOrder_is false ⟨a, b, c, d⟩ hm 0 (fun J hFE hok => ?_) 4 (.inr ⟨rfl, rfl, rfl⟩) w hid) w hid
    rcases hf : fP ⟨a, b, c, d⟩ J (kM Mat.one) with _ | x
    · exact ⟨rfl, rfl⟩
    · obtain ⟨i, z1, z2, z3, z4⟩ := fP_some (by decide) hok hf
      exact absurd z4 (Mat.pow_big hdet (by show 2 ≤ kind a b c d; omega) z1)
end Go.Proofs.YtmlbbhhjjepmkaaDoor
