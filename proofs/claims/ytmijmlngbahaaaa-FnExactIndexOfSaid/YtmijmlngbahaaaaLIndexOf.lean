/- The walk of the law FnExactIndexOf. -/
import Derived.Test.YtmijmlngbahaaaaLoIndexOf
namespace Go.Proofs.Ytmijmlngbahaaaa
open Go.ChangeShapes Go.WideShapes Go.ChangeAt Go.RowKit
theorem lawIndexOf_walk (f n : Int) (_ : I64 f) (_ : I64 n) (w : World) :
    Calls Try.prog 4 #[(.int .i64 f), (.int .i64 n)] w fun e w' => e = .returned (.bool true) ∧ Below w.heap.size w w' := by
  obtain ⟨r, k, hs, hi⟩ := Idx_both f n
  exact lawIndexOf_of f n r k hs hi w
end Go.Proofs.Ytmijmlngbahaaaa
