/- Contracts of products of two matrices. -/
import Derived.Test.YtdcomnnpnhinfaaDoorA
namespace Go.Proofs.YtdcomnnpnhinfaaDoor
open Go.ChangeShapes Go.WideShapes Go.ChangeAt Go.RowKit

/-- Four numbers are entries. -/
def okE (p q r s : Int) : Bool := allW [p, q, r, s] 1000000000
theorem okE_true {p q r s : Int} : okE p q r s = true ↔ inW p 1000000000 = true ∧ inW q 1000000000 = true ∧ inW r 1000000000 = true ∧ inW s 1000000000 = true := by
  simp [okE, allW]

theorem entry_is (r : Bool) (x : Int) (h : inW x 1000000000 = r) (w : World) :
    Calls Tryd.prog 67 #[(.int .i64 x)] w fun e w' => e = .returned (.bool r) ∧ w = w' := h ▸ l01Entry_any x w

end Go.Proofs.YtdcomnnpnhinfaaDoor
