/- The walk of the law FnExactSawTooth, where both sides answer alike. -/
import Derived.Test.YthggpcdbnopabaaF
namespace Go.Proofs.Ythggpcdbnopabaa
open Go.ChangeShapes Go.WideShapes Go.ChangeAt Go.RowKit

end Go.Proofs.Ythggpcdbnopabaa
