/- What is known of the package's error: an interface value with a pointer in it. -/
import Derived.Test.YtejghidllochoaaBase
import Derived.LaidLaws
import Derived.LaidSub
import Derived.Deep.DeepHandedRow
namespace Go.Proofs.Ytejghidllochoaa
open Go.ChangeShapes Go.WideShapes Go.ChangeAt Go.RowKit

end Go.Proofs.Ytejghidllochoaa
