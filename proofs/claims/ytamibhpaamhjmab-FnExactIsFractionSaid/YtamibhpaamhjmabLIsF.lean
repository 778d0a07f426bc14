/- The walk of the law FnExactIsFraction. -/
import Derived.Test.YtamibhpaamhjmabF
import Derived.Test.YtamibhpaamhjmabIsF
namespace Go.Proofs.Ytamibhpaamhjmab
open Go.ChangeShapes Go.WideShapes Go.ChangeAt Go.RowKit

set_option maxHeartbeats 400000 in
theorem lawIsFraction_walk (a b : Int) (_ : I64 a) (_ : I64 b) (w : World) :
    Calls Try.prog 3 #[(.agg #[.int .i64 a, .int .i64 b])] w fun e w' => e = .returned (.bool true) ∧ Below w.heap.size w w' := by
  go_enter Try.func3, Try.ntmps3
  go_wp2_with fail
  refine (toFraction_any _ _ _).mono ?_
  rintro e w1 ⟨rfl, hb1⟩
  have Bw1_0 : Box w1 (w.heap.size) [.int .i64 a, .int .i64 b] := by refine Box.below ?_ hb1; repeat (first | assumption | exact Box.new _ _ _ | apply Box.alloc | apply Box.drewN | apply Box.drew)
  obtain ⟨_, _, _, _, _⟩ := Bw1_0.two
  go_wp2_with fail
  refine (specIsF_any _ _ _).mono ?_
  rintro e w2 ⟨rfl, hb2⟩
  have Bw2_0 : Box w2 (w.heap.size) [.int .i64 a, .int .i64 b] := by refine Box.below ?_ hb2; repeat (first | assumption | exact Box.new _ _ _ | apply Box.alloc | apply Box.drewN | apply Box.drew)
  obtain ⟨_, _, _, _, _⟩ := Bw2_0.two
  go_wp2_with fail
  refine (toFraction_any _ _ _).mono ?_
  rintro e w3 ⟨rfl, hb3⟩
  go_wp2_with fail
  refine (implIsF_any _ _ _).mono ?_
  rintro e w4 ⟨rfl, hb4⟩
  go_wp2
  go_ret
  exact ⟨rfl, by repeat (first | with_reducible exact own_refl _ | with_reducible assumption | with_reducible apply own_alloc | with_reducible apply own_drewN | with_reducible apply own_drew | ((with_reducible refine own_setCell ?_ ?_ _); rotate_left; focus (first | (simp; done) | (simp; omega))) | (with_reducible (refine own_trans ?_ (by assumption))))⟩
end Go.Proofs.Ytamibhpaamhjmab
