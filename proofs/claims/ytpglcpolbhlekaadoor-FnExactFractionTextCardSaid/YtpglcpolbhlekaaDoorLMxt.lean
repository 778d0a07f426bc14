/- The walks of the laws FnExactMatrixText, FnExactFractionText. -/
import Derived.Test.YtpglcpolbhlekaaDoorMxt
import Derived.Test.YtpglcpolbhlekaaDoorLoMatrixText
import Derived.Test.YtpglcpolbhlekaaDoorLoFractionText
namespace Go.Proofs.YtpglcpolbhlekaaDoor
open Go.ChangeShapes Go.WideShapes Go.ChangeAt Go.RowKit

theorem lawMatrixText_walk (a b c d : Int) (_ : I64 a) (_ : I64 b) (_ : I64 c) (_ : I64 d) (w : World) (hp : PT w) :
    Calls Tryd.prog 3 #[(.agg #[.int .i64 a, .int .i64 b, .int .i64 c, .int .i64 d])] w fun e w' => e = .returned (.bool true) ∧ Below w.heap.size w w' := by
  rcases h : isM a b c d with _ | _
  · exact lawMatrixText_of a b c d ⟨#[]⟩ 1 (fun w => specMxt_no a b c d h w) (fun w _ => implMxt_no a b c d h w) w hp
  · exact lawMatrixText_of a b c d _ 0 (fun w => specMxt_yes a b c d h w) (fun w hp => implMxt_yes a b c d h w hp) w hp
theorem lawFractionText_walk (a b : Int) (_ : I64 a) (_ : I64 b) (w : World) (hp : PT w) :
    Calls Tryd.prog 4 #[(.agg #[.int .i64 a, .int .i64 b])] w fun e w' => e = .returned (.bool true) ∧ Below w.heap.size w w' := by
  rcases h : isF a b with _ | _
  · exact lawFractionText_of a b ⟨#[]⟩ 1 (fun w => specFxt_no a b h w) (fun w _ => implFxt_no a b h w) w hp
  · exact lawFractionText_of a b _ 0 (fun w => specFxt_yes a b h w) (fun w hp => implFxt_yes a b h w hp) w hp
end Go.Proofs.YtpglcpolbhlekaaDoor
