/- Contracts of the laws' own helpers over matrices. -/
import Derived.Test.YtejghidllochoaaTo
namespace Go.Proofs.Ytejghidllochoaa
open Go.ChangeShapes Go.WideShapes Go.ChangeAt Go.RowKit

end Go.Proofs.Ytejghidllochoaa
