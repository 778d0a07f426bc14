/- impl.mustBeFractions: contracts for one and for two fractions. -/
import Derived.Test.YtejghidllochoaaIsF
import Derived.Test.YtejghidllochoaaErr
namespace Go.Proofs.Ytejghidllochoaa
open Go.ChangeShapes Go.WideShapes Go.ChangeAt Go.RowKit

theorem isF_is (r : Bool) (p q : Int) (h : isF p q = r) (w : World) : Calls Try.prog 18 #[(.agg #[.int .i64 p, .int .i64 q])] w fun e w' => e = .returned (.bool r) ∧ Below w.heap.size w w' := h ▸ implIsF_any p q w

end Go.Proofs.Ytejghidllochoaa
