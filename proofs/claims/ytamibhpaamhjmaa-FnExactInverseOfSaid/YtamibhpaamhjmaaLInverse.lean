/- The walks of the laws FnExactInverseOf and FnExactTraceOf. -/
import Derived.Test.YtamibhpaamhjmaaInvOf
import Derived.Test.YtamibhpaamhjmaaTrOf
import Derived.Test.YtamibhpaamhjmaaLoInverseOf
import Derived.Test.YtamibhpaamhjmaaLoTraceOf
namespace Go.Proofs.Ytamibhpaamhjmaa
open Go.ChangeShapes Go.WideShapes Go.ChangeAt Go.RowKit

theorem lawInverse_walk (a b c d : Int) (_ : I64 a) (_ : I64 b) (_ : I64 c) (_ : I64 d) (w : World) :
    Calls Try.prog 4 #[(.agg #[.int .i64 a, .int .i64 b, .int .i64 c, .int .i64 d])] w fun e w' => e = .returned (.bool true) ∧ Below w.heap.size w w' := by
  rcases h : isM a b c d with _ | _
  · exact lawInverseOf_of a b c d 0 0 0 0 1 (fun w => specInverseOf_no a b c d w h) (fun w => implInverseOf_no a b c d w h) w
  · exact lawInverseOf_of a b c d d (-b) (-c) a 0 (fun w => specInverseOf_yes a b c d w h) (fun w => implInverseOf_yes a b c d w h) w

theorem lawTrace_walk (a b c d : Int) (_ : I64 a) (_ : I64 b) (_ : I64 c) (_ : I64 d) (w : World) :
    Calls Try.prog 5 #[(.agg #[.int .i64 a, .int .i64 b, .int .i64 c, .int .i64 d])] w fun e w' => e = .returned (.bool true) ∧ Below w.heap.size w w' := by
  rcases h : isM a b c d with _ | _
  · exact lawTraceOf_of a b c d 0 1 (fun w => specTraceOf_no a b c d w h) (fun w => implTraceOf_no a b c d w h) w
  · exact lawTraceOf_of a b c d (a + d) 0 (fun w => specTraceOf_yes a b c d w h) (fun w => implTraceOf_yes a b c d w h) w
end Go.Proofs.Ytamibhpaamhjmaa
