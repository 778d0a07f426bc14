/- What the row's list gives: the powers of ten stand. -/
import Derived.Test.YtpglcpolbhlekaaDoorJoin
import Derived.Lib.LaidTab
import Derived.Deep.DeepHandedRow
namespace Go.Proofs.YtpglcpolbhlekaaDoor
open Go.ChangeShapes Go.WideShapes Go.ChangeAt Go.RowKit

theorem gPow : Tryd.prog.globalNamed "internal/strconv.uint64pow10" = some 3 := by kernel_rfl
theorem gPowType : (Tryd.prog.globals[3]?).map (·.type) = some 145 := by kernel_rfl
theorem cells_pow : Tryd.prog.cellsOf 145 = 20 := by kernel_rfl
theorem cells_u64 : Tryd.prog.cellsOf 121 = 1 := by kernel_rfl
theorem pt_of {W : World} (h : laidMetH Tryd.prog [("internal/strconv.uint64pow10", Rows.laid_internal_strconv_uint64pow10)] W) : PT W :=
  Lib.tabIs_of_head (rest := []) gPow gPowType Tryd.underlying145 Tryd.underlying121 cells_u64 cells_pow h
end Go.Proofs.YtpglcpolbhlekaaDoor
