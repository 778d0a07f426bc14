/- Contract of spec.IsMatrix. -/
import Derived.Test.YtamibhpaamhjmaaA
namespace Go.Proofs.Ytamibhpaamhjmaa
open Go.ChangeShapes Go.WideShapes Go.ChangeAt Go.RowKit

theorem specIs_any (a b c d : Int) (w : World) :
    Calls Try.prog 9 #[.agg #[.int .i64 a, .int .i64 b, .int .i64 c, .int .i64 d]] w fun e w' => e = .returned (.bool (isM a b c d)) ∧ Below w.heap.size w w' := by
  go_enter Try.func9, Try.ntmps9
  go_wp2_with (go_at_call 29; refine (l01Is_any _ _ _ _ _).mono ?_; rintro e w' ⟨rfl, hb⟩)
  go_ret
  exact ⟨rfl, ((Below.refl _ _).alloc (Nat.le_refl _) _).trans (hb.mono (by simp))⟩
end Go.Proofs.Ytamibhpaamhjmaa
