/- Contract of impl.absolute. -/
import Derived.Test.YtkeadknbdihkmaaDoorBase
namespace Go.Proofs.YtkeadknbdihkmaaDoor
open Go.ChangeShapes Go.WideShapes Go.ChangeAt Go.RowKit

end Go.Proofs.YtkeadknbdihkmaaDoor
