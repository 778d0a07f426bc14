/- Contracts of the inverse matrices. -/
import Derived.Test.YthappdcoomgbpaaDoorA
namespace Go.Proofs.YthappdcoomgbpaaDoor
open Go.ChangeShapes Go.WideShapes Go.ChangeAt Go.RowKit

end Go.Proofs.YthappdcoomgbpaaDoor
