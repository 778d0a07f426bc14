/- Contract of impl.absolute. -/
import Derived.Test.YtmlbbhhjjepmkaaBase
namespace Go.Proofs.Ytmlbbhhjjepmkaa
open Go.ChangeShapes Go.WideShapes Go.ChangeAt Go.RowKit

end Go.Proofs.Ytmlbbhhjjepmkaa
