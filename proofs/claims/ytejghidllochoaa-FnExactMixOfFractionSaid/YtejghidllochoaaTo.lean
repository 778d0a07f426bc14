/- Contracts of the laws' own helper that makes a matrix. -/
import Derived.Test.YtejghidllochoaaA
namespace Go.Proofs.Ytejghidllochoaa
open Go.ChangeShapes Go.WideShapes Go.ChangeAt Go.RowKit

end Go.Proofs.Ytejghidllochoaa
