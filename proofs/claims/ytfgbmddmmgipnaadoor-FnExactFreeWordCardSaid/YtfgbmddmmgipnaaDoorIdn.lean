/- What the row's list gives: the package's table 'identity' holds its four numbers. -/
import Derived.Test.YtfgbmddmmgipnaaDoorPA
import Derived.Lib.LaidTab
import Derived.Deep.DeepHandedRow
namespace Go.Proofs.YtfgbmddmmgipnaaDoor
open Go.ChangeShapes Go.WideShapes Go.ChangeAt Go.RowKit

theorem gIdn : Tryd.prog.globalNamed "loop.example/g01380/impl.identity" = some 1 := by kernel_rfl
theorem gIdnType : (Tryd.prog.globals[1]?).map (·.type) = some 23 := by kernel_rfl
theorem cells_mat : Tryd.prog.cellsOf 23 = 4 := by kernel_rfl
theorem cells_int : Tryd.prog.cellsOf 2 = 1 := by kernel_rfl
theorem idn_of {W : World} (h : laidMetH Tryd.prog [("loop.example/g01380/impl.identity", Rows.laid_loop_example_g01380_impl_identity)] W) : Idn W := by
  have t : Lib.TabIs Tryd.prog W "loop.example/g01380/impl.identity" .i64 [1, 0, 0, 1] := Lib.tabIs_of_head (rest := []) gIdn gIdnType Tryd.underlying23 Tryd.underlying2 cells_int cells_mat h
  have c0 := t.cell gIdn 0 (by decide)
  refine ⟨World.block_lt_of_cell? W _ c0, fun i v hv => ?_⟩
  match i, hv with
  | 0, hv => injection hv with hv; subst hv; exact c0
  | 1, hv => injection hv with hv; subst hv; exact t.cell gIdn 1 (by decide)
  | 2, hv => injection hv with hv; subst hv; exact t.cell gIdn 2 (by decide)
  | 3, hv => injection hv with hv; subst hv; exact t.cell gIdn 3 (by decide)
end Go.Proofs.YtfgbmddmmgipnaaDoor
