/- Contracts of the laws' own helper that makes a matrix. -/
import Derived.Test.YtfchfakkbdfajaaA
namespace Go.Proofs.Ytfchfakkbdfajaa
open Go.ChangeShapes Go.WideShapes Go.ChangeAt Go.RowKit

end Go.Proofs.Ytfchfakkbdfajaa
