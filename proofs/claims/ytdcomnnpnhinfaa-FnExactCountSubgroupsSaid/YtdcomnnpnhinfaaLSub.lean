/- The walk of the law FnExactCountSubgroups, where both sides answer alike. -/
import Derived.Test.YtdcomnnpnhinfaaCgA
namespace Go.Proofs.Ytdcomnnpnhinfaa
open Go.ChangeShapes Go.WideShapes Go.ChangeAt Go.RowKit

set_option maxHeartbeats 2000000 in
theorem lawCountSubgroups_of (n0 : Int) (r00 : Int) (k : Int)
    (hs : ∀ w : World, Calls Try.prog 12 #[(.int .i64 n0)] w fun e w' => e = .returned (.tuple #[(.int .i64 r00), (.int .i64 k)]) ∧ Below w.heap.size w w')
    (hi : ∀ w : World, Calls Try.prog 13 #[(.int .i64 n0)] w fun e w' => e = .returned (.tuple #[(.int .i64 r00), (.int .i64 k)]) ∧ Below w.heap.size w w') (w : World) :
    Calls Try.prog 5 #[(.int .i64 n0)] w fun e w' => e = .returned (.bool true) ∧ Below w.heap.size w w' := by
  have HS := Lib.hid hs
  have HI := Lib.hid hi
  clear hs hi
  go_enter Try.func5, Try.ntmps5
  go_wp2_with fail
  refine (HS.out _).mono ?_
  rintro e w2 ⟨rfl, hb2⟩
  go_wp2_with fail
  refine (HI.out _).mono ?_
  rintro e w4 ⟨rfl, hb4⟩
  go_wp2
  go_ret
  exact ⟨rfl, by repeat (first | with_reducible exact own_refl _ | with_reducible assumption | with_reducible apply own_alloc | with_reducible apply own_drewN | with_reducible apply own_drew | ((with_reducible refine own_setCell ?_ ?_ _); rotate_left; focus (first | (simp; done) | (simp; omega))) | (with_reducible (refine own_trans ?_ (by assumption))))⟩
end Go.Proofs.Ytdcomnnpnhinfaa
