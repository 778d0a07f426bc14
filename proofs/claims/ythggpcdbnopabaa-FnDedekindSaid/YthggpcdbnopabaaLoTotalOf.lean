/- The walk of the law FnExactTotalOf, where both sides answer alike. -/
import Derived.Test.YthggpcdbnopabaaEqF
namespace Go.Proofs.Ythggpcdbnopabaa
open Go.ChangeShapes Go.WideShapes Go.ChangeAt Go.RowKit

end Go.Proofs.Ythggpcdbnopabaa
