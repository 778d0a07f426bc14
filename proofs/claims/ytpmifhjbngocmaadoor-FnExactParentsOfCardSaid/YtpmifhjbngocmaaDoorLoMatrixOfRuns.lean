/- The walk of the law FnExactMatrixOfRuns, where both sides answer alike. -/
import Derived.Test.YtpmifhjbngocmaaDoorB
import Derived.Test.YtpmifhjbngocmaaDoorToS
import Derived.Test.YtpmifhjbngocmaaDoorPA
namespace Go.Proofs.YtpmifhjbngocmaaDoor
open Go.ChangeShapes Go.WideShapes Go.ChangeAt Go.RowKit

end Go.Proofs.YtpmifhjbngocmaaDoor
