/- Contracts of the laws' own helper that makes a matrix. -/
import Derived.Test.YtdcomnnpnhinfaaA
namespace Go.Proofs.Ytdcomnnpnhinfaa
open Go.ChangeShapes Go.WideShapes Go.ChangeAt Go.RowKit

set_option maxHeartbeats 400000 in
theorem toMatrix_any (a b c d : Int) (w : World) :
    Calls Try.prog 20 #[.agg #[.int .i64 a, .int .i64 b, .int .i64 c, .int .i64 d]] w fun e w' => e = .returned (.agg #[.int .i64 a, .int .i64 b, .int .i64 c, .int .i64 d]) ∧ Below w.heap.size w w' := by
  go_enter Try.func20, Try.ntmps20
  go_wp2
  go_rounds 5
  exact bodyPost_ret (v := .agg #[.int .i64 a, .int .i64 b, .int .i64 c, .int .i64 d]) (by simp [results, Try.results20, go_sem]) rfl ⟨rfl, by repeat (first | exact own_refl _ | apply own_alloc)⟩
end Go.Proofs.Ytdcomnnpnhinfaa
