/- What the row's list gives: the powers of ten stand. -/
import Derived.Test.YtfgbmddmmgipnaaDoorJoin
import Derived.Lib.LaidTab
import Derived.Deep.DeepHandedRow
namespace Go.Proofs.YtfgbmddmmgipnaaDoor
open Go.ChangeShapes Go.WideShapes Go.ChangeAt Go.RowKit

theorem gPow : Tryd.prog.globalNamed "internal/strconv.uint64pow10" = some 5 := by kernel_rfl
theorem gPowType : (Tryd.prog.globals[5]?).map (·.type) = some 132 := by kernel_rfl
theorem cells_pow : Tryd.prog.cellsOf 132 = 20 := by kernel_rfl
theorem cells_u64 : Tryd.prog.cellsOf 105 = 1 := by kernel_rfl
theorem pt_of {W : World} (h : laidMetH Tryd.prog [("internal/strconv.uint64pow10", Rows.laid_internal_strconv_uint64pow10)] W) : PT W :=
  Lib.tabIs_of_head (rest := []) gPow gPowType Tryd.underlying132 Tryd.underlying105 cells_u64 cells_pow h
end Go.Proofs.YtfgbmddmmgipnaaDoor
