/- The walk of the law FnExactCosetOf. -/
import Derived.Test.YtmijmlngbahaaaaLoCosetOf
namespace Go.Proofs.Ytmijmlngbahaaaa
open Go.ChangeShapes Go.WideShapes Go.ChangeAt Go.RowKit
theorem lawCosetOf_walk (n a b c d : Int) (_ : I64 n) (_ : I64 a) (_ : I64 b) (_ : I64 c) (_ : I64 d) (w : World) :
    Calls Try.prog 7 #[(.int .i64 n), (.agg #[.int .i64 a, .int .i64 b, .int .i64 c, .int .i64 d])] w fun e w' => e = .returned (.bool true) ∧ Below w.heap.size w w' := by
  obtain ⟨r, k, hs, hi⟩ := Co_both n a b c d
  exact lawCosetOf_of n a b c d r k hs hi w
end Go.Proofs.Ytmijmlngbahaaaa
