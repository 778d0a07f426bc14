/- What the row's list gives: the package's table 'matrixS' holds its four numbers. -/
import Derived.Test.YtfgbmddmmgipnaaDoorBase
import Derived.Lib.LaidTab
import Derived.Deep.DeepHandedRow
namespace Go.Proofs.YtfgbmddmmgipnaaDoor
open Go.ChangeShapes Go.WideShapes Go.ChangeAt Go.RowKit

/-- The package's table 'matrixS' holds 0, -1, 1, 0. -/
def MxS (w : World) : Prop := Rd w 0 [.int .i64 0, .int .i64 (-1), .int .i64 1, .int .i64 0]
theorem gMxS : Tryd.prog.globalNamed "loop.example/g01380/impl.matrixS" = some 0 := by kernel_rfl
theorem gMxSType : (Tryd.prog.globals[0]?).map (·.type) = some 23 := by kernel_rfl
theorem cells_mat2 : Tryd.prog.cellsOf 23 = 4 := by kernel_rfl
theorem cells_int2 : Tryd.prog.cellsOf 2 = 1 := by kernel_rfl
theorem mxs_of {W : World} (h : laidMetH Tryd.prog [("loop.example/g01380/impl.matrixS", Rows.laid_loop_example_g01380_impl_matrixS)] W) : MxS W := by
  have t : Lib.TabIs Tryd.prog W "loop.example/g01380/impl.matrixS" .i64 [0, -1, 1, 0] := Lib.tabIs_of_head (rest := []) gMxS gMxSType Tryd.underlying23 Tryd.underlying2 cells_int2 cells_mat2 h
  have c0 := t.cell gMxS 0 (by decide)
  refine ⟨World.block_lt_of_cell? W _ c0, fun i v hv => ?_⟩
  match i, hv with
  | 0, hv => injection hv with hv; subst hv; exact c0
  | 1, hv => injection hv with hv; subst hv; exact t.cell gMxS 1 (by decide)
  | 2, hv => injection hv with hv; subst hv; exact t.cell gMxS 2 (by decide)
  | 3, hv => injection hv with hv; subst hv; exact t.cell gMxS 3 (by decide)
end Go.Proofs.YtfgbmddmmgipnaaDoor
