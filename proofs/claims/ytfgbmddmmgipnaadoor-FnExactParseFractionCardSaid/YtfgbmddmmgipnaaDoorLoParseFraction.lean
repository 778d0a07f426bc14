/- The walk of the law FnExactParseFraction, where both sides answer alike. -/
import Derived.Test.YtfgbmddmmgipnaaDoorF
import Derived.Test.YtfgbmddmmgipnaaDoorB
import Derived.Test.YtfgbmddmmgipnaaDoorImpPf
import Derived.Test.YtfgbmddmmgipnaaDoorPfS
namespace Go.Proofs.YtfgbmddmmgipnaaDoor
open Go.ChangeShapes Go.WideShapes Go.ChangeAt Go.RowKit

set_option maxHeartbeats 2000000 in
theorem lawParseFraction_of (s : ByteArray) (r0 r1 k : Int) (hn : s.size ≤ 1048576)
    (hs : ∀ (w : World), Calls Tryd.prog 9 #[.string s] w fun e w' => e = .returned (.tuple #[(.agg #[.int .i64 r0, .int .i64 r1]), (.int .i64 k)]) ∧ Below w.heap.size w w')
    (hi : ∀ (w : World), Lb w → Calls Tryd.prog 10 #[.string s] w fun e w' => e = .returned (.tuple #[(.agg #[.int .i64 r0, .int .i64 r1]), (.int .i64 k)]) ∧ Below w.heap.size w w') (w : World) (hid0 : Lb w) :
    Calls Tryd.prog 4 #[.string s] w fun e w' => e = .returned (.bool true) ∧ Below w.heap.size w w' := by
  have HS := Lib.hid hs
  have HI := Lib.hid hi
  have hn1 : (s.size : Int) ≤ 1048576 := by omega
  clear hs hi
  go_enter Tryd.func4, Tryd.ntmps4
  go_wp2_with fail
  refine (HS.out _).mono ?_
  rintro e w2 ⟨rfl, hb2⟩
  have T2 : Below w.heap.size w (w2.alloc (.cells #[.int .i64 r0, .int .i64 r1] 29)) := by repeat (first | with_reducible exact own_refl _ | with_reducible assumption | with_reducible apply own_alloc | with_reducible apply own_drewN | with_reducible apply own_drew | ((with_reducible refine own_setCell ?_ ?_ _); rotate_left; focus (first | (simp; done) | (simp; omega))) | (with_reducible (refine own_trans ?_ (by assumption))))
  have R2 : Box (w2.alloc (.cells #[.int .i64 r0, .int .i64 r1] 29)) w2.heap.size [.int .i64 r0, .int .i64 r1] := Box.new _ _ _
  go_wp2_with fail
  have I0 : Lb (w2.alloc (.cells #[.int .i64 r0, .int .i64 r1] 29)) := Lb.below hid0 T2
  refine (HI.out _ I0).mono ?_
  rintro e w4 ⟨rfl, hb4⟩
  have R4 := R2.below hb4
  obtain ⟨_, _, _, _, _⟩ := R4.two
  have n4 : ¬ (w4.heap.size = w2.heap.size) := Nat.ne_of_gt R4.1
  go_wp2_with fail
  refine (eqFraction_same _ _ _).mono ?_
  rintro e w5 ⟨rfl, hb5⟩
  go_wp2
  go_ret
  exact ⟨rfl, by repeat (first | with_reducible exact own_refl _ | with_reducible assumption | with_reducible apply own_alloc | with_reducible apply own_drewN | with_reducible apply own_drew | ((with_reducible refine own_setCell ?_ ?_ _); rotate_left; focus (first | (simp; done) | (simp; omega))) | (with_reducible (refine own_trans ?_ (by assumption))))⟩
set_option maxHeartbeats 1000000 in
theorem lawParseFraction_long (s : ByteArray) (hn : ¬ s.size ≤ 1048576) (hn' : s.size ≤ 9223372036854775807) (w : World) :
    Calls Tryd.prog 4 #[.string s] w fun e w' => e = .returned (.bool true) ∧ Below w.heap.size w w' := by
  have hn1 : (1048576 : Int) < (s.size : Int) := by omega
  go_enter Tryd.func4, Tryd.ntmps4
  go_wp2
  go_ret
  exact ⟨rfl, own_refl _⟩
end Go.Proofs.YtfgbmddmmgipnaaDoor
