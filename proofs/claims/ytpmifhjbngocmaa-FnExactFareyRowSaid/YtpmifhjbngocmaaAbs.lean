/- Contract of impl.absolute. -/
import Derived.Test.YtpmifhjbngocmaaBase
namespace Go.Proofs.Ytpmifhjbngocmaa
open Go.ChangeShapes Go.WideShapes Go.ChangeAt Go.RowKit

end Go.Proofs.Ytpmifhjbngocmaa
