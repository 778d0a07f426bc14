/- What the row's list gives: what the library's readers ask of the world. -/
import Derived.Test.YtfgbmddmmgipnaaDoorSpn
import Derived.MakeChecks
import Derived.Stop.ErrReads
namespace Go.Proofs.YtfgbmddmmgipnaaDoor
open Go.ChangeShapes Go.WideShapes Go.ChangeAt Go.RowKit

theorem cells_esL : Tryd.prog.cellsOf 143 = 1 := by kernel_rfl
theorem cells_strL : Tryd.prog.cellsOf 9 = 1 := by kernel_rfl
theorem star_esL : "*" ++ "errors.errorString" = "*errors.errorString" := by decide
theorem row_esL (u : TypeId) (h : Tryd.prog.typeName? 3 u = some "*errors.errorString") : u = 141 :=
  typeName_ptr_named (nm := "errors.errorString") (by rw [star_esL]; kernel_rfl) (by kernel_rfl) (by decide) u (by rw [star_esL]; exact h)
theorem gErrSyntax : Tryd.prog.globalNamed "strconv.ErrSyntax" = some 3 := by kernel_rfl
theorem gErrSyntaxType : (Tryd.prog.globals[3]?).map (·.type) = some 74 := by kernel_rfl
set_option maxRecDepth 1000000 in
theorem atErrSyntax {W : World} (h : laidMetH Tryd.prog [("strconv.ErrSyntax", Rows.laid_strconv_ErrSyntax)] W) : ErrAt W 3 := by
  rw [MakeChecks.laidMetH_plain _ _ _ (by kernel_rfl)] at h
  obtain ⟨ps, ⟨g0, t0, cs0, f0, p0, q0, hg0, ht0, hv0, hd0, hq0, e0⟩, hnd, hrows⟩ := h
  obtain rfl := Option.some.inj (gErrSyntax.symm.trans hg0)
  obtain rfl := Option.some.inj (gErrSyntaxType.symm.trans ht0)
  have hq1' : q0 = [] := hq0
  subst hq1'
  subst e0
  obtain ⟨l0⟩ := cs0
  have ok0 : ∀ u v, l0 = [.iface u v] → Value.okWide Tryd.prog W .any 0 u v := fun u v e => by
    subst e
    exact (hrows 3 0 (by simp [MemPlace.row])).2 u v (by simpa using World.var?_cell hg0 hv0 0)
  obtain ⟨a0, s0, rfl, _⟩ := errorString_of_trod Tryd.underlying74 row_esL Tryd.underlying141 Tryd.underlying143 rfl rfl Tryd.underlying9 cells_esL cells_strL hd0 ok0
  exact ⟨_, by simpa using World.var?_cell hg0 hv0 0, .inr ⟨_, _, rfl⟩⟩
theorem gErrRange : Tryd.prog.globalNamed "strconv.ErrRange" = some 4 := by kernel_rfl
theorem gErrRangeType : (Tryd.prog.globals[4]?).map (·.type) = some 74 := by kernel_rfl
set_option maxRecDepth 1000000 in
theorem atErrRange {W : World} (h : laidMetH Tryd.prog [("strconv.ErrRange", Rows.laid_strconv_ErrRange)] W) : ErrAt W 4 := by
  rw [MakeChecks.laidMetH_plain _ _ _ (by kernel_rfl)] at h
  obtain ⟨ps, ⟨g0, t0, cs0, f0, p0, q0, hg0, ht0, hv0, hd0, hq0, e0⟩, hnd, hrows⟩ := h
  obtain rfl := Option.some.inj (gErrRange.symm.trans hg0)
  obtain rfl := Option.some.inj (gErrRangeType.symm.trans ht0)
  have hq1' : q0 = [] := hq0
  subst hq1'
  subst e0
  obtain ⟨l0⟩ := cs0
  have ok0 : ∀ u v, l0 = [.iface u v] → Value.okWide Tryd.prog W .any 0 u v := fun u v e => by
    subst e
    exact (hrows 4 0 (by simp [MemPlace.row])).2 u v (by simpa using World.var?_cell hg0 hv0 0)
  obtain ⟨a0, s0, rfl, _⟩ := errorString_of_trod Tryd.underlying74 row_esL Tryd.underlying141 Tryd.underlying143 rfl rfl Tryd.underlying9 cells_esL cells_strL hd0 ok0
  exact ⟨_, by simpa using World.var?_cell hg0 hv0 0, .inr ⟨_, _, rfl⟩⟩
theorem lb_of {W : World} (hp : PT W) (h1 : laidMetH Tryd.prog [("strconv.ErrSyntax", Rows.laid_strconv_ErrSyntax)] W) (h2 : laidMetH Tryd.prog [("strconv.ErrRange", Rows.laid_strconv_ErrRange)] W) (hs : W.ShapedOpen Tryd.prog) : Lb W :=
  ⟨hp, laysM147.s1_3 W hs, atErrSyntax h1, atErrRange h2⟩
end Go.Proofs.YtfgbmddmmgipnaaDoor
