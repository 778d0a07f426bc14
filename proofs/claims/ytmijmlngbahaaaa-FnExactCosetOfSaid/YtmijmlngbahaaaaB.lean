/- Contracts of the laws' own helpers over matrices. -/
import Derived.Test.YtmijmlngbahaaaaTo
namespace Go.Proofs.Ytmijmlngbahaaaa
open Go.ChangeShapes Go.WideShapes Go.ChangeAt Go.RowKit

end Go.Proofs.Ytmijmlngbahaaaa
