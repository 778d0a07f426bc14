/- The walk of the law FnExactRunsOf, where both sides answer alike. -/
import Derived.Test.YtpglcpolbhlekaaDoorB
import Derived.Test.YtpglcpolbhlekaaDoorSl
import Derived.Test.YtpglcpolbhlekaaDoorPA
import Derived.Test.YtpglcpolbhlekaaDoorRet
namespace Go.Proofs.YtpglcpolbhlekaaDoor
open Go.ChangeShapes Go.WideShapes Go.ChangeAt Go.RowKit

end Go.Proofs.YtpglcpolbhlekaaDoor
