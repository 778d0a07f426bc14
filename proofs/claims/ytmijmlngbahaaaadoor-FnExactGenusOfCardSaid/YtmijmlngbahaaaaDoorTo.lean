/- Contracts of the laws' own helper that makes a matrix. -/
import Derived.Test.YtmijmlngbahaaaaDoorA
namespace Go.Proofs.YtmijmlngbahaaaaDoor
open Go.ChangeShapes Go.WideShapes Go.ChangeAt Go.RowKit

end Go.Proofs.YtmijmlngbahaaaaDoor
