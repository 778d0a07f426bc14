/- The laws' helpers over fractions. -/
import Derived.Test.YthggpcdbnopabaaBase
namespace Go.Proofs.Ythggpcdbnopabaa
open Go.ChangeShapes Go.WideShapes Go.ChangeAt Go.RowKit

end Go.Proofs.Ythggpcdbnopabaa
