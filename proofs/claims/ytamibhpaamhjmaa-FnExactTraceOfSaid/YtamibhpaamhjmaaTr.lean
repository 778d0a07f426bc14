/- Contract of the trace. -/
import Derived.Test.YtamibhpaamhjmaaA
namespace Go.Proofs.Ytamibhpaamhjmaa
open Go.ChangeShapes Go.WideShapes Go.ChangeAt Go.RowKit

set_option maxHeartbeats 400000 in
theorem l01Trace_any (a b c d : Int) (ha : Ent a) (hd : Ent d) (w : World) :
    Calls Try.prog 33 #[(.agg #[.int .i64 a, .int .i64 b, .int .i64 c, .int .i64 d])] w fun e w' => e = .returned (.int .i64 (a + d)) ∧ Below w.heap.size w w' := by
  obtain ⟨_, _⟩ := ha
  obtain ⟨_, _⟩ := hd
  go_enter Try.func33, Try.ntmps33
  go_wp2
  go_ret
  exact ⟨rfl, by repeat (first | exact own_refl _ | assumption | apply own_alloc | apply own_drewN | apply own_drew | (refine own_setCell ?_ (by simp) _) | (refine own_trans ?_ (by assumption)))⟩
end Go.Proofs.Ytamibhpaamhjmaa
