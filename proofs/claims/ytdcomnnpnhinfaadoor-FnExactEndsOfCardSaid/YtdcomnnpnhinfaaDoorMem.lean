/- IsMember: contracts of both sides. -/
import Derived.Test.YtdcomnnpnhinfaaDoorRest
namespace Go.Proofs.YtdcomnnpnhinfaaDoor
open Go.ChangeShapes Go.WideShapes Go.ChangeAt Go.RowKit

theorem isFamily_is (r : Bool) (f : Int) (hr : inR f 0 2 = r) (w : World) : Calls Tryd.prog 61 #[(.int .i64 f)] w fun e w' => e = .returned (.bool r) ∧ w = w' := by
  subst hr
  by_cases a : 0 ≤ f
  · by_cases b : f ≤ 2
    · go_enter Tryd.func61, Tryd.ntmps61
      go_wp2
      go_ret
      exact ⟨by simp [inR, a, b], rfl⟩
    · go_enter Tryd.func61, Tryd.ntmps61
      go_wp2
      go_ret
      exact ⟨by simp [inR, a, b], rfl⟩
  · go_enter Tryd.func61, Tryd.ntmps61
    go_wp2
    go_ret
    exact ⟨by simp [inR]; omega, rfl⟩

end Go.Proofs.YtdcomnnpnhinfaaDoor
