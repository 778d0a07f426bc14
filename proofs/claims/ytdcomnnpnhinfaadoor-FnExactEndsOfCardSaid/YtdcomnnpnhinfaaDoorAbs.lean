/- Contract of impl.absolute. -/
import Derived.Test.YtdcomnnpnhinfaaDoorBase
namespace Go.Proofs.YtdcomnnpnhinfaaDoor
open Go.ChangeShapes Go.WideShapes Go.ChangeAt Go.RowKit

set_option maxHeartbeats 400000 in
theorem absolute_any (x : Int) (h1 : -9223372036854775807 ≤ x) (h2 : x ≤ 9223372036854775807) (w : World) :
    Calls Tryd.prog 103 #[(.int .i64 x)] w fun e w' => e = .returned (.int .i64 ((x.natAbs : Int))) ∧ w = w' := by
  by_cases h : x < 0
  · have H := Lib.hid (show -x = (x.natAbs : Int) by omega)
    go_enter Tryd.func103, Tryd.ntmps103
    go_wp2
    go_ret
    exact ⟨ret_int H.out, rfl⟩
  · have H := Lib.hid (show x = (x.natAbs : Int) by omega)
    go_enter Tryd.func103, Tryd.ntmps103
    go_wp2
    go_ret
    exact ⟨ret_int H.out, rfl⟩
end Go.Proofs.YtdcomnnpnhinfaaDoor
