/- The walk of the law FnExactCountKept, where both sides answer alike. -/
import Derived.Test.YtmijmlngbahaaaaDoorB
import Derived.Test.YtmijmlngbahaaaaDoorKpI
namespace Go.Proofs.YtmijmlngbahaaaaDoor
open Go.ChangeShapes Go.WideShapes Go.ChangeAt Go.RowKit

set_option maxHeartbeats 2000000 in
theorem lawCountKept_of (n0 : Int) (r00 : Int) (r10 : Int) (k : Int)
    (hs : ∀ w : World, Calls Tryd.prog 13 #[(.int .i64 n0)] w fun e w' => e = .returned (.tuple #[(.int .i64 r00), (.int .i64 r10), (.int .i64 k)]) ∧ Below w.heap.size w w')
    (hi : ∀ w : World, Idn w → MxS w → Calls Tryd.prog 14 #[(.int .i64 n0)] w fun e w' => e = .returned (.tuple #[(.int .i64 r00), (.int .i64 r10), (.int .i64 k)]) ∧ Below w.heap.size w w') (w : World) (hid0 : Idn w) (hid1 : MxS w) :
    Calls Tryd.prog 5 #[(.int .i64 n0)] w fun e w' => e = .returned (.bool true) ∧ Below w.heap.size w w' := by
  have HS := Lib.hid hs
  have HI := Lib.hid hi
  clear hs hi
  go_enter Tryd.func5, Tryd.ntmps5
  go_wp2_with fail
  refine (HS.out _).mono ?_
  rintro e w2 ⟨rfl, hb2⟩
  have T3 : Below w.heap.size w w2 := by repeat (first | with_reducible exact own_refl _ | with_reducible assumption | with_reducible apply own_alloc | with_reducible apply own_drewN | with_reducible apply own_drew | ((with_reducible refine own_setCell ?_ ?_ _); rotate_left; focus (first | (simp; done) | (simp; omega))) | (with_reducible (refine own_trans ?_ (by assumption))))
  have IX0 : Idn w2 := Rd.below hid0 T3
  have IX1 : MxS w2 := Rd.below hid1 T3
  go_wp2_with fail
  refine (HI.out _ IX0 IX1).mono ?_
  rintro e w4 ⟨rfl, hb4⟩
  go_wp2
  go_ret
  exact ⟨rfl, by repeat (first | with_reducible exact own_refl _ | with_reducible assumption | with_reducible apply own_alloc | with_reducible apply own_drewN | with_reducible apply own_drew | ((with_reducible refine own_setCell ?_ ?_ _); rotate_left; focus (first | (simp; done) | (simp; omega))) | (with_reducible (refine own_trans ?_ (by assumption))))⟩
end Go.Proofs.YtmijmlngbahaaaaDoor
