/- The walk of the law FnExactSawTooth. -/
import Derived.Test.YthggpcdbnopabaaSaw
import Derived.Test.YthggpcdbnopabaaLoSawTooth
namespace Go.Proofs.Ythggpcdbnopabaa
open Go.ChangeShapes Go.WideShapes Go.ChangeAt Go.RowKit

theorem saw_one (p : Int) : lowP (tth 1 (rst p 1)) (2 * 1) = 0 ∧ lowQ (tth 1 (rst p 1)) (2 * 1) = 1 := by
  have h := rst_bd (x := p) (n := 1) (by omega)
  have h0 : rst p 1 = 0 := by omega
  rw [h0]
  decide
end Go.Proofs.Ythggpcdbnopabaa
