/- The walk of the law FnExactPathOf, where both sides answer alike. -/
import Derived.Test.YtpglcpolbhlekaaDoorB
import Derived.Test.YtpglcpolbhlekaaDoorF
import Derived.Test.YtpglcpolbhlekaaDoorErr
namespace Go.Proofs.YtpglcpolbhlekaaDoor
open Go.ChangeShapes Go.WideShapes Go.ChangeAt Go.RowKit

set_option maxHeartbeats 400000 in
theorem lawPathOf_of (a b : Int) (ea : Addr) (r0 : ByteArray) (k : Int)
    (hs : ∀ w : World, Calls Tryd.prog 18 #[(.agg #[.int .i64 a, .int .i64 b])] w fun e w' => e = .returned (.tuple #[.string r0, (.int .i64 k)]) ∧ Below w.heap.size w w')
    (hi : ∀ w : World, Er w ea → Calls Tryd.prog 19 #[(.agg #[.int .i64 a, .int .i64 b])] w fun e w' => e = .returned (.tuple #[.string r0, (.int .i64 k)]) ∧ Below w.heap.size w w') (w : World) (hid : Er w ea) :
    Calls Tryd.prog 6 #[(.agg #[.int .i64 a, .int .i64 b])] w fun e w' => e = .returned (.bool true) ∧ Below w.heap.size w w' := by
  have HS := Lib.hid hs
  have HI := Lib.hid hi
  clear hs hi
  go_enter Tryd.func6, Tryd.ntmps6
  go_wp2_with fail
  refine (toFraction_any _ _ _).mono ?_
  rintro e w1 ⟨rfl, hb1⟩
  have Bw1_0 : Box w1 (w.heap.size) [.int .i64 a, .int .i64 b] := by refine Box.below ?_ hb1; repeat (first | with_reducible assumption | with_reducible exact Box.new _ _ _ | (with_reducible refine Box.newAt ?_ _ _; (simp; done)) | with_reducible apply Box.alloc | with_reducible apply Box.drewN | with_reducible apply Box.drew)
  obtain ⟨_, _, _, _, _⟩ := Bw1_0.two
  go_wp2_with fail
  refine (HS.out _).mono ?_
  rintro e w2 ⟨rfl, hb2⟩
  have Bw2_0 : Box w2 (w.heap.size) [.int .i64 a, .int .i64 b] := by refine Box.below ?_ hb2; repeat (first | with_reducible assumption | with_reducible exact Box.new _ _ _ | (with_reducible refine Box.newAt ?_ _ _; (simp; done)) | with_reducible apply Box.alloc | with_reducible apply Box.drewN | with_reducible apply Box.drew)
  obtain ⟨_, _, _, _, _⟩ := Bw2_0.two
  go_wp2_with fail
  refine (toFraction_any _ _ _).mono ?_
  rintro e w3 ⟨rfl, hb3⟩
  go_wp2_with fail
  have IX : Er w3 ea := Er.below (Er.below (Er.below (Er.alloc hid _) hb1) hb2) hb3
  refine (HI.out _ IX).mono ?_
  rintro e w4 ⟨rfl, hb4⟩
  go_wp2
  go_ret
  exact ⟨rfl, by repeat (first | with_reducible exact own_refl _ | with_reducible assumption | with_reducible apply own_alloc | with_reducible apply own_drewN | with_reducible apply own_drew | ((with_reducible refine own_setCell ?_ ?_ _); rotate_left; focus (first | (simp; done) | (simp; omega))) | (with_reducible (refine own_trans ?_ (by assumption))))⟩
end Go.Proofs.YtpglcpolbhlekaaDoor
