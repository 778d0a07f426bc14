/- What the row's list gives: the package's table 'firstTriple' holds its three numbers. -/
import Derived.Test.YtafmfdhogoheaaaDoorBase
import Derived.Lib.LaidTab
import Derived.Deep.DeepHandedRow
namespace Go.Proofs.YtafmfdhogoheaaaDoor
open Go.ChangeShapes Go.WideShapes Go.ChangeAt Go.RowKit

/-- The package's table 'firstTriple' holds 1, 1, 1. -/
def FtT (w : World) : Prop := Rd w 0 [.int .i64 1, .int .i64 1, .int .i64 1]
theorem gFtT : Tryd.prog.globalNamed "loop.example/g01380/impl.firstTriple" = some 0 := by kernel_rfl
theorem gFtTType : (Tryd.prog.globals[0]?).map (·.type) = some 36 := by kernel_rfl
theorem cells_tri3 : Tryd.prog.cellsOf 36 = 3 := by kernel_rfl
theorem cells_int3 : Tryd.prog.cellsOf 2 = 1 := by kernel_rfl
theorem ftt_of {W : World} (h : laidMetH Tryd.prog [("loop.example/g01380/impl.firstTriple", Rows.laid_loop_example_g01380_impl_firstTriple)] W) : FtT W := by
  have t : Lib.TabIs Tryd.prog W "loop.example/g01380/impl.firstTriple" .i64 [1, 1, 1] := Lib.tabIs_of_head (rest := []) gFtT gFtTType Tryd.underlying36 Tryd.underlying2 cells_int3 cells_tri3 h
  have c0 := t.cell gFtT 0 (by decide)
  refine ⟨World.block_lt_of_cell? W _ c0, fun i v hv => ?_⟩
  match i, hv with
  | 0, hv => injection hv with hv; subst hv; exact c0
  | 1, hv => injection hv with hv; subst hv; exact t.cell gFtT 1 (by decide)
  | 2, hv => injection hv with hv; subst hv; exact t.cell gFtT 2 (by decide)
end Go.Proofs.YtafmfdhogoheaaaDoor
