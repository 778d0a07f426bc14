/- The walk of the law FnExactMatrixOfChain, where both sides answer alike. -/
import Derived.Test.YtpmifhjbngocmaaB
import Derived.Test.YtpmifhjbngocmaaToS
import Derived.Test.YtpmifhjbngocmaaPA
import Derived.Test.YtpmifhjbngocmaaMxS
namespace Go.Proofs.Ytpmifhjbngocmaa
open Go.ChangeShapes Go.WideShapes Go.ChangeAt Go.RowKit

end Go.Proofs.Ytpmifhjbngocmaa
