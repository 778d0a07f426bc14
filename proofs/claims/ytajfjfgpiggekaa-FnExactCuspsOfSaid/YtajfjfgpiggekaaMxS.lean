/- What the row's list gives: the package's table 'matrixS' holds its four numbers. -/
import Derived.Test.YtajfjfgpiggekaaBase
import Derived.Lib.LaidTab
import Derived.Deep.DeepHandedRow
namespace Go.Proofs.Ytajfjfgpiggekaa
open Go.ChangeShapes Go.WideShapes Go.ChangeAt Go.RowKit

theorem cells_mat2 : Try.prog.cellsOf 46 = 4 := by kernel_rfl
theorem cells_int2 : Try.prog.cellsOf 2 = 1 := by kernel_rfl
end Go.Proofs.Ytajfjfgpiggekaa
