/- The walk of the law FnExactNormalPair. -/
import Derived.Test.YtmijmlngbahaaaaLoNormalPair
namespace Go.Proofs.Ytmijmlngbahaaaa
open Go.ChangeShapes Go.WideShapes Go.ChangeAt Go.RowKit
theorem lawNormalPair_walk (n c d : Int) (_ : I64 n) (_ : I64 c) (_ : I64 d) (w : World) :
    Calls Try.prog 5 #[(.int .i64 n), (.int .i64 c), (.int .i64 d)] w fun e w' => e = .returned (.bool true) ∧ Below w.heap.size w w' := by
  rcases h : inNp n c d with _ | _
  · exact lawNormalPair_of n c d _ _ _ (specNp_no n c d h) (implNp_no n c d h) w
  · exact lawNormalPair_of n c d _ _ _ (specNp_yes n c d h _ rfl _ _ _ rfl) (implNp_yes n c d h _ rfl _ _ _ rfl) w
end Go.Proofs.Ytmijmlngbahaaaa
