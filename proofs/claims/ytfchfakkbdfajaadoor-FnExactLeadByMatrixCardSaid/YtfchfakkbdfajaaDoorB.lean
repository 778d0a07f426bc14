/- Contracts of the laws' own helpers over matrices. -/
import Derived.Test.YtfchfakkbdfajaaDoorTo
namespace Go.Proofs.YtfchfakkbdfajaaDoor
open Go.ChangeShapes Go.WideShapes Go.ChangeAt Go.RowKit

end Go.Proofs.YtfchfakkbdfajaaDoor
