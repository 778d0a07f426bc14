/- Contracts of the laws' own helpers over matrices. -/
import Derived.Test.YtfpgdbdgglbleaaTo
namespace Go.Proofs.Ytfpgdbdgglbleaa
open Go.ChangeShapes Go.WideShapes Go.ChangeAt Go.RowKit

end Go.Proofs.Ytfpgdbdgglbleaa
