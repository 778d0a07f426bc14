/- The walk of the law FnExactTraceOf, where both sides answer alike. -/
import Derived.Test.YtamibhpaamhjmaaB
namespace Go.Proofs.Ytamibhpaamhjmaa
open Go.ChangeShapes Go.WideShapes Go.ChangeAt Go.RowKit

set_option maxHeartbeats 400000 in
theorem lawTraceOf_of (a b c d : Int) (r0 : Int) (k : Int)
    (hs : ∀ w : World, Calls Try.prog 15 #[(.agg #[.int .i64 a, .int .i64 b, .int .i64 c, .int .i64 d])] w fun e w' => e = .returned (.tuple #[(.int .i64 r0), (.int .i64 k)]) ∧ Below w.heap.size w w')
    (hi : ∀ w : World, Calls Try.prog 16 #[(.agg #[.int .i64 a, .int .i64 b, .int .i64 c, .int .i64 d])] w fun e w' => e = .returned (.tuple #[(.int .i64 r0), (.int .i64 k)]) ∧ Below w.heap.size w w') (w : World) :
    Calls Try.prog 5 #[(.agg #[.int .i64 a, .int .i64 b, .int .i64 c, .int .i64 d])] w fun e w' => e = .returned (.bool true) ∧ Below w.heap.size w w' := by
  have HS := Lib.hid hs
  have HI := Lib.hid hi
  clear hs hi
  go_enter Try.func5, Try.ntmps5
  go_wp2_with fail
  refine (toMatrix_any _ _ _ _ _).mono ?_
  rintro e w1 ⟨rfl, hb1⟩
  have Bw1_0 : Box w1 (w.heap.size) [.int .i64 a, .int .i64 b, .int .i64 c, .int .i64 d] := by refine Box.below ?_ hb1; repeat (first | assumption | exact Box.new _ _ _ | apply Box.alloc | apply Box.drewN | apply Box.drew)
  obtain ⟨_, _, _, _, _, _, _, _, _⟩ := Bw1_0.four
  go_wp2_with fail
  refine (HS.out _).mono ?_
  rintro e w2 ⟨rfl, hb2⟩
  have Bw2_0 : Box w2 (w.heap.size) [.int .i64 a, .int .i64 b, .int .i64 c, .int .i64 d] := by refine Box.below ?_ hb2; repeat (first | assumption | exact Box.new _ _ _ | apply Box.alloc | apply Box.drewN | apply Box.drew)
  obtain ⟨_, _, _, _, _, _, _, _, _⟩ := Bw2_0.four
  go_wp2_with fail
  refine (toMatrix_any _ _ _ _ _).mono ?_
  rintro e w3 ⟨rfl, hb3⟩
  go_wp2_with fail
  refine (HI.out _).mono ?_
  rintro e w4 ⟨rfl, hb4⟩
  go_wp2
  go_ret
  exact ⟨rfl, by repeat (first | exact own_refl _ | assumption | apply own_alloc | apply own_drewN | apply own_drew | (refine own_setCell ?_ (by simp) _) | (refine own_trans ?_ (by assumption)))⟩
end Go.Proofs.Ytamibhpaamhjmaa
