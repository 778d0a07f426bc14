/- The walk of the law FnExactKeptFraction, where both sides answer alike. -/
import Derived.Test.YtpmifhjbngocmaaDoorB
import Derived.Test.YtpmifhjbngocmaaDoorPA
import Derived.Test.YtpmifhjbngocmaaDoorEqF
namespace Go.Proofs.YtpmifhjbngocmaaDoor
open Go.ChangeShapes Go.WideShapes Go.ChangeAt Go.RowKit

end Go.Proofs.YtpmifhjbngocmaaDoor
