/- Contracts of the laws' own helpers over matrices. -/
import Derived.Test.YtpmifhjbngocmaaDoorTo
namespace Go.Proofs.YtpmifhjbngocmaaDoor
open Go.ChangeShapes Go.WideShapes Go.ChangeAt Go.RowKit

end Go.Proofs.YtpmifhjbngocmaaDoor
