/- The walk of the law FnExactSignBetween, where both sides answer alike. -/
import Derived.Test.YtpmifhjbngocmaaDoorB
namespace Go.Proofs.YtpmifhjbngocmaaDoor
open Go.ChangeShapes Go.WideShapes Go.ChangeAt Go.RowKit

end Go.Proofs.YtpmifhjbngocmaaDoor
