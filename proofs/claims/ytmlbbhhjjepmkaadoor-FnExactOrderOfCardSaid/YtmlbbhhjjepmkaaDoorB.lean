/- Contracts of the laws' own helpers over matrices. -/
import Derived.Test.YtmlbbhhjjepmkaaDoorTo
namespace Go.Proofs.YtmlbbhhjjepmkaaDoor
open Go.ChangeShapes Go.WideShapes Go.ChangeAt Go.RowKit

end Go.Proofs.YtmlbbhhjjepmkaaDoor
