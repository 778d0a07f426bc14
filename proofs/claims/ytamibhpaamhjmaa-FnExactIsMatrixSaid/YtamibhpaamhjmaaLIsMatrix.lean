/- The walk of the law FnExactIsMatrix. -/
import Derived.Test.YtamibhpaamhjmaaB
import Derived.Test.YtamibhpaamhjmaaSpecIs
namespace Go.Proofs.Ytamibhpaamhjmaa
open Go.ChangeShapes Go.WideShapes Go.ChangeAt Go.RowKit

set_option maxHeartbeats 400000 in
theorem lawIsMatrix_walk (a b c d : Int) (_ : I64 a) (_ : I64 b) (_ : I64 c) (_ : I64 d) (w : World) :
    Calls Try.prog 3 #[.agg #[.int .i64 a, .int .i64 b, .int .i64 c, .int .i64 d]] w fun e w' => e = .returned (.bool true) ∧ Below w.heap.size w w' := by
  go_enter Try.func3, Try.ntmps3
  go_wp2_with fail
  refine (toMatrix_any _ _ _ _ _).mono ?_
  rintro e w1 ⟨rfl, hb1⟩
  obtain ⟨hc1, hf1⟩ := old_cells hb1
  simp only [World.size_alloc] at hc1 hf1
  go_wp2_with fail
  refine (specIs_any _ _ _ _ _).mono ?_
  rintro e w2 ⟨rfl, hb2⟩
  replace hb2 := own_trans hb1 hb2
  obtain ⟨hc2, hf2⟩ := old_cells hb2
  simp only [World.size_alloc] at hc2 hf2
  go_wp2_with fail
  refine (toMatrix_any _ _ _ _ _).mono ?_
  rintro e w3 ⟨rfl, hb3⟩
  replace hb3 := own_trans hb2 hb3
  go_wp2_with fail
  refine (implIs_any _ _ _ _ _).mono ?_
  rintro e w4 ⟨rfl, hb4⟩
  replace hb4 := own_trans hb3 hb4
  go_wp2
  go_ret
  exact ⟨rfl, own_trans (own_alloc (own_refl _) _) hb4⟩
end Go.Proofs.Ytamibhpaamhjmaa
