/- What the row's list gives of the package's error. -/
import Derived.Test.YtpglcpolbhlekaaDoorErr
import Derived.MakeChecks
import Derived.Stop.ErrReads
namespace Go.Proofs.YtpglcpolbhlekaaDoor
open Go.ChangeShapes Go.WideShapes Go.ChangeAt Go.RowKit

theorem gErr : Tryd.prog.globalNamed "loop.example/g01380/impl.errNoFraction" = some 2 := by kernel_rfl
theorem gErrType : (Tryd.prog.globals[2]?).map (·.type) = some 84 := by kernel_rfl
theorem cells_es : Tryd.prog.cellsOf 162 = 1 := by kernel_rfl
theorem cells_str : Tryd.prog.cellsOf 9 = 1 := by kernel_rfl
theorem star_es : "*" ++ "errors.errorString" = "*errors.errorString" := by decide
theorem row_es (u : TypeId) (h : Tryd.prog.typeName? 3 u = some "*errors.errorString") : u = 160 :=
  typeName_ptr_named (nm := "errors.errorString") (by rw [star_es]; kernel_rfl) (by kernel_rfl) (by decide) u (by rw [star_es]; exact h)
set_option maxRecDepth 1000000 in
theorem er_of {W : World} (h : laidMetH Tryd.prog [("loop.example/g01380/impl.errNoFraction", Rows.laid_loop_example_g01380_impl_errNoFraction)] W) : ∃ a, Er W a := by
  rw [MakeChecks.laidMetH_plain _ _ _ (by kernel_rfl)] at h
  obtain ⟨ps, ⟨g0, t0, cs0, f0, p0, q0, hg0, ht0, hv0, hd0, hq0, e0⟩, hnd, hrows⟩ := h
  obtain rfl := Option.some.inj (gErr.symm.trans hg0)
  obtain rfl := Option.some.inj (gErrType.symm.trans ht0)
  have hq1' : q0 = [] := hq0
  subst hq1'
  subst e0
  obtain ⟨l0⟩ := cs0
  have ok0 : ∀ u v, l0 = [.iface u v] → Value.okWide Tryd.prog W .any 0 u v := fun u v e => by
    subst e
    exact (hrows 2 0 (by simp [MemPlace.row])).2 u v (by simpa using World.var?_cell hg0 hv0 0)
  obtain ⟨a0, s0, rfl, _⟩ := errorString_of_trod Tryd.underlying84 row_es Tryd.underlying160 Tryd.underlying162 rfl rfl Tryd.underlying9 cells_es cells_str hd0 ok0
  exact ⟨a0, by unfold Er; simpa using World.var?_cell hg0 hv0 0⟩
end Go.Proofs.YtpglcpolbhlekaaDoor
