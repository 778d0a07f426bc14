/- Contracts of the laws' own helpers over matrices. -/
import Derived.Test.YtfchfakkbdfajaaTo
namespace Go.Proofs.Ytfchfakkbdfajaa
open Go.ChangeShapes Go.WideShapes Go.ChangeAt Go.RowKit

end Go.Proofs.Ytfchfakkbdfajaa
