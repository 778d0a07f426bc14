/- Blocks of three values. -/
import Derived.Test.YtafmfdhogoheaaaDoorBase
namespace Go.Proofs.YtafmfdhogoheaaaDoor
open Go.ChangeShapes Go.WideShapes Go.ChangeAt Go.RowKit

theorem Box.three {w : World} {g : Nat} {x0 x1 x2 : Value} (h : Box w g [x0, x1, x2]) :
    g < w.heap.size ∧ w.cell? ⟨g, 0, none⟩ = some x0 ∧ w.cell? ⟨g, 1, none⟩ = some x1 ∧ w.cell? ⟨g, 2, none⟩ = some x2 ∧
      w.frozen? ⟨g, 0, none⟩ = false ∧ w.frozen? ⟨g, 1, none⟩ = false ∧ w.frozen? ⟨g, 2, none⟩ = false :=
  ⟨h.1, (h.2 0 _ rfl).1, (h.2 1 _ rfl).1, (h.2 2 _ rfl).1, (h.2 0 _ rfl).2, (h.2 1 _ rfl).2, (h.2 2 _ rfl).2⟩
theorem Box.put3 {w : World} {g : Nat} {x0 x1 x2 : Value} (h : Box w g [x0, x1, x2]) (y0 y1 y2 : Value) :
    Box (((w.setCell ⟨g, 0, none⟩ y0).setCell ⟨g, 1, none⟩ y1).setCell ⟨g, 2, none⟩ y2) g [y0, y1, y2] :=
  ((h.set 0 (by simp) y0).set 1 (by simp) y1).set 2 (by simp) y2
end Go.Proofs.YtafmfdhogoheaaaDoor
