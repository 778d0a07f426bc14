/- The walk of the law FnExactSecondNumber, where both sides answer alike. -/
import Derived.Test.YtajfjfgpiggekaaDoorTo
namespace Go.Proofs.YtajfjfgpiggekaaDoor
open Go.ChangeShapes Go.WideShapes Go.ChangeAt Go.RowKit

end Go.Proofs.YtajfjfgpiggekaaDoor
