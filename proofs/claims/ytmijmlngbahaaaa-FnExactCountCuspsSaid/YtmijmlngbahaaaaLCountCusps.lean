/- The walk of the law FnExactCountCusps. -/
import Derived.Test.YtmijmlngbahaaaaLoCountCusps
namespace Go.Proofs.Ytmijmlngbahaaaa
open Go.ChangeShapes Go.WideShapes Go.ChangeAt Go.RowKit
theorem lawCountCusps_walk (n : Int) (_ : I64 n) (w : World) :
    Calls Try.prog 9 #[(.int .i64 n)] w fun e w' => e = .returned (.bool true) ∧ Below w.heap.size w w' := by
  by_cases h : 1 ≤ n ∧ n ≤ 1000
  · exact lawCountCusps_of n _ _ (specCc_yes n h.1 h.2) (implCc_yes n h.1 h.2) w
  · exact lawCountCusps_of n _ _ (specCc_no n h) (implCc_no n h) w
end Go.Proofs.Ytmijmlngbahaaaa
