/- The walk of the law FnExactTotalOf, where both sides answer alike. -/
import Derived.Test.YtajfjfgpiggekaaEqF
namespace Go.Proofs.Ytajfjfgpiggekaa
open Go.ChangeShapes Go.WideShapes Go.ChangeAt Go.RowKit

set_option maxHeartbeats 2000000 in
theorem lawTotalOf_of (n0 : Int) (r00 r01 : Int) (k : Int)
    (hs : ∀ w : World, Calls Try.prog 30 #[(.int .i64 n0)] w fun e w' => e = .returned (.tuple #[(.agg #[.int .i64 r00, .int .i64 r01]), (.int .i64 k)]) ∧ Below w.heap.size w w')
    (hi : ∀ w : World, Calls Try.prog 31 #[(.int .i64 n0)] w fun e w' => e = .returned (.tuple #[(.agg #[.int .i64 r00, .int .i64 r01]), (.int .i64 k)]) ∧ Below w.heap.size w w') (w : World) :
    Calls Try.prog 8 #[(.int .i64 n0)] w fun e w' => e = .returned (.bool true) ∧ Below w.heap.size w w' := by
  have HS := Lib.hid hs
  have HI := Lib.hid hi
  clear hs hi
  go_enter Try.func8, Try.ntmps8
  go_wp2_with fail
  refine (HS.out _).mono ?_
  rintro e w2 ⟨rfl, hb2⟩
  have Bw2_0 : Box (w2.alloc (.cells #[.int .i64 r00, .int .i64 r01] 23)) w2.heap.size [.int .i64 r00, .int .i64 r01] := Box.new _ _ _
  go_wp2_with fail
  refine (HI.out _).mono ?_
  rintro e w4 ⟨rfl, hb4⟩
  have R4 := Bw2_0.below hb4
  obtain ⟨_, _, _, _, _⟩ := R4.two
  have n4 : ¬ (w4.heap.size = w2.heap.size) := Nat.ne_of_gt R4.1
  go_wp2_with fail
  refine (eqFraction_same _ _ _).mono ?_
  rintro e w5 ⟨rfl, hb5⟩
  go_wp2
  go_ret
  exact ⟨rfl, by repeat (first | with_reducible exact own_refl _ | with_reducible assumption | with_reducible apply own_alloc | with_reducible apply own_drewN | with_reducible apply own_drew | ((with_reducible refine own_setCell ?_ ?_ _); rotate_left; focus (first | (simp; done) | (simp; omega))) | (with_reducible (refine own_trans ?_ (by assumption))))⟩
end Go.Proofs.Ytajfjfgpiggekaa
