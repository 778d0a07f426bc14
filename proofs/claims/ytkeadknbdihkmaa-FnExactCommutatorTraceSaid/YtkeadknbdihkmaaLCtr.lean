/- The walk of the law FnExactCommutatorTrace. -/
import Derived.Test.YtkeadknbdihkmaaLoCommutatorTrace
namespace Go.Proofs.Ytkeadknbdihkmaa
open Go.ChangeShapes Go.WideShapes Go.ChangeAt Go.RowKit

theorem lawCommutatorTrace_walk (a b c d p q r s : Int) (_ : I64 a) (_ : I64 b) (_ : I64 c) (_ : I64 d) (_ : I64 p) (_ : I64 q) (_ : I64 r) (_ : I64 s) (w : World) :
    Calls Try.prog 5 #[(.agg #[.int .i64 a, .int .i64 b, .int .i64 c, .int .i64 d]), (.agg #[.int .i64 p, .int .i64 q, .int .i64 r, .int .i64 s])] w fun e w' => e = .returned (.bool true) ∧ Below w.heap.size w w' := by
  rcases h : isM a b c d with _ | _
  · exact lawCommutatorTrace_of a b c d p q r s 0 1 (fun w => specCtr_inv1 a b c d p q r s h w) (fun w => implCtr_inv1 a b c d p q r s h w) w
  rcases h2 : isM p q r s with _ | _
  · exact lawCommutatorTrace_of a b c d p q r s 0 1 (fun w => specCtr_inv2 a b c d p q r s h h2 w) (fun w => implCtr_inv2 a b c d p q r s h h2 w) w
  rcases h3 : allW [a, b, c, d] 1000 with _ | _
  · exact lawCommutatorTrace_of a b c d p q r s 0 2 (fun w => specCtr_big a b c d p q r s h h2 (.inl h3) w) (fun w => implCtr_big1 a b c d p q r s h h2 h3 w) w
  rcases h4 : allW [p, q, r, s] 1000 with _ | _
  · exact lawCommutatorTrace_of a b c d p q r s 0 2 (fun w => specCtr_big a b c d p q r s h h2 (.inr h4) w) (fun w => implCtr_big2 a b c d p q r s h h2 h3 h4 w) w
  exact lawCommutatorTrace_of a b c d p q r s _ 0 (fun w => specCtr_yes a b c d p q r s _ _ _ h h2 h3 h4 rfl rfl rfl w) (fun w => implCtr_yes a b c d p q r s _ _ _ h h2 h3 h4 rfl rfl rfl w) w
end Go.Proofs.Ytkeadknbdihkmaa
