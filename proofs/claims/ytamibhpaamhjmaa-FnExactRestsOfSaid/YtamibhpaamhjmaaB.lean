/- Contracts of the laws' own helpers over matrices. -/
import Derived.Test.YtamibhpaamhjmaaA
namespace Go.Proofs.Ytamibhpaamhjmaa
open Go.ChangeShapes Go.WideShapes Go.ChangeAt Go.RowKit

set_option maxHeartbeats 400000 in
theorem toMatrix_any (a b c d : Int) (w : World) :
    Calls Try.prog 10 #[.agg #[.int .i64 a, .int .i64 b, .int .i64 c, .int .i64 d]] w fun e w' => e = .returned (.agg #[.int .i64 a, .int .i64 b, .int .i64 c, .int .i64 d]) ∧ Below w.heap.size w w' := by
  go_enter Try.func10, Try.ntmps10
  go_wp2
  go_rounds 5
  exact bodyPost_ret (v := .agg #[.int .i64 a, .int .i64 b, .int .i64 c, .int .i64 d]) (by simp [results, Try.results10, go_sem]) rfl ⟨rfl, by repeat (first | exact own_refl _ | apply own_alloc)⟩

set_option maxHeartbeats 400000 in
theorem eqMatrix_same (a b c d : Int) (w : World) :
    Calls Try.prog 14 #[(.agg #[.int .i64 a, .int .i64 b, .int .i64 c, .int .i64 d]), (.agg #[.int .i64 a, .int .i64 b, .int .i64 c, .int .i64 d])] w fun e w' => e = .returned (.bool true) ∧ Below w.heap.size w w' := by
  go_enter Try.func14, Try.ntmps14
  go_wp2
  refine wp_loop_rounds 5 ?_
  iterate 4
    rw [rounds_succ]
    go_wp2
    go_quiet (fail)
    go_wp2
  rw [rounds_succ]
  go_wp2
  go_ret
  exact ⟨rfl, by repeat (first | exact own_refl _ | assumption | apply own_alloc | apply own_drewN | apply own_drew | (refine own_setCell ?_ (by simp) _) | (refine own_trans ?_ (by assumption)))⟩

end Go.Proofs.Ytamibhpaamhjmaa
