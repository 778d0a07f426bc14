/- The walk of the law FnExactCompareFractions, where both sides answer alike. -/
import Derived.Test.YtpglcpolbhlekaaDoorF
namespace Go.Proofs.YtpglcpolbhlekaaDoor
open Go.ChangeShapes Go.WideShapes Go.ChangeAt Go.RowKit

end Go.Proofs.YtpglcpolbhlekaaDoor
