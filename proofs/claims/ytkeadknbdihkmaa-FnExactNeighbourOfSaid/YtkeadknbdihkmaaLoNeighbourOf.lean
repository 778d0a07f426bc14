/- The walk of the law FnExactNeighbourOf, where both sides answer alike. -/
import Derived.Test.YtkeadknbdihkmaaNbo
namespace Go.Proofs.Ytkeadknbdihkmaa
open Go.ChangeShapes Go.WideShapes Go.ChangeAt Go.RowKit

set_option maxHeartbeats 1000000 in
theorem lawNeighbourOf_of (a b c n1 : Int) (r00 r01 r02 : Int) (k : Int)
    (hs : ∀ w : World, Calls Try.prog 10 #[(.agg #[.int .i64 a, .int .i64 b, .int .i64 c]), (.int .i64 n1)] w fun e w' => e = .returned (.tuple #[(.agg #[.int .i64 r00, .int .i64 r01, .int .i64 r02]), (.int .i64 k)]) ∧ Below w.heap.size w w')
    (hi : ∀ w : World, Calls Try.prog 11 #[(.agg #[.int .i64 a, .int .i64 b, .int .i64 c]), (.int .i64 n1)] w fun e w' => e = .returned (.tuple #[(.agg #[.int .i64 r00, .int .i64 r01, .int .i64 r02]), (.int .i64 k)]) ∧ Below w.heap.size w w') (w : World) :
    Calls Try.prog 4 #[(.agg #[.int .i64 a, .int .i64 b, .int .i64 c]), (.int .i64 n1)] w fun e w' => e = .returned (.bool true) ∧ Below w.heap.size w w' := by
  have HS := Lib.hid hs
  have HI := Lib.hid hi
  clear hs hi
  go_enter Try.func4, Try.ntmps4
  go_wp2_with fail
  refine (toTriple_any _ _ _ _).mono ?_
  rintro e w1 ⟨rfl, hb1⟩
  have Bw1_0 : Box w1 (w.heap.size) [.int .i64 a, .int .i64 b, .int .i64 c] := by refine Box.below ?_ hb1; repeat (first | with_reducible assumption | with_reducible exact Box.new _ _ _ | (with_reducible refine Box.newAt ?_ _ _; (simp; done)) | with_reducible apply Box.alloc | with_reducible apply Box.drewN | with_reducible apply Box.drew)
  obtain ⟨_, _, _, _, _, _, _⟩ := Bw1_0.three
  go_wp2_with fail
  refine (HS.out _).mono ?_
  rintro e w2 ⟨rfl, hb2⟩
  have Bw2_0 : Box w2 (w.heap.size) [.int .i64 a, .int .i64 b, .int .i64 c] := by refine Box.below ?_ hb2; repeat (first | with_reducible assumption | with_reducible exact Box.new _ _ _ | (with_reducible refine Box.newAt ?_ _ _; (simp; done)) | with_reducible apply Box.alloc | with_reducible apply Box.drewN | with_reducible apply Box.drew)
  obtain ⟨_, _, _, _, _, _, _⟩ := Bw2_0.three
  go_wp2_with fail
  refine (toTriple_any _ _ _ _).mono ?_
  rintro e w3 ⟨rfl, hb3⟩
  have Bw3_0 : Box w3 (w2.heap.size) [.int .i64 r00, .int .i64 r01, .int .i64 r02] := by refine Box.below ?_ hb3; repeat (first | with_reducible assumption | with_reducible exact Box.new _ _ _ | (with_reducible refine Box.newAt ?_ _ _; (simp; done)) | with_reducible apply Box.alloc | with_reducible apply Box.drewN | with_reducible apply Box.drew)
  obtain ⟨_, _, _, _, _, _, _⟩ := Bw3_0.three
  go_wp2_with fail
  refine (HI.out _).mono ?_
  rintro e w4 ⟨rfl, hb4⟩
  have Bw4_0 : Box w4 (w2.heap.size) [.int .i64 r00, .int .i64 r01, .int .i64 r02] := by refine Box.below ?_ hb4; repeat (first | with_reducible assumption | with_reducible exact Box.new _ _ _ | (with_reducible refine Box.newAt ?_ _ _; (simp; done)) | with_reducible apply Box.alloc | with_reducible apply Box.drewN | with_reducible apply Box.drew)
  obtain ⟨_, _, _, _, _, _, _⟩ := Bw4_0.three
  go_wp2_with fail
  refine (eqTriple_same _ _ _ _).mono ?_
  rintro e w5 ⟨rfl, hb5⟩
  go_wp2
  go_ret
  exact ⟨rfl, by repeat (first | with_reducible exact own_refl _ | with_reducible assumption | with_reducible apply own_alloc | with_reducible apply own_drewN | with_reducible apply own_drew | ((with_reducible refine own_setCell ?_ ?_ _); rotate_left; focus (first | (simp; done) | (simp; omega))) | (with_reducible (refine own_trans ?_ (by assumption))))⟩
end Go.Proofs.Ytkeadknbdihkmaa
