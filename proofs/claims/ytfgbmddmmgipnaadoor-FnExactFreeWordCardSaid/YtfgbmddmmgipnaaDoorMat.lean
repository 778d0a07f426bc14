/- Matrices as Lean sees them; lists of them in memory. -/
import Derived.Test.YtfgbmddmmgipnaaDoorA
namespace Go.Proofs.YtfgbmddmmgipnaaDoor
open Go.ChangeShapes Go.WideShapes Go.ChangeAt Go.RowKit

structure Mat where
  a : Int
  b : Int
  c : Int
  d : Int

namespace Mat
def mul (m n : Mat) : Mat := ⟨m.a * n.a + m.b * n.c, m.a * n.b + m.b * n.d, m.c * n.a + m.d * n.c, m.c * n.b + m.d * n.d⟩
def one : Mat := ⟨1, 0, 0, 1⟩
def zero : Mat := ⟨0, 0, 0, 0⟩
def cells (m : Mat) : List Value := [(.int .i64 m.a), (.int .i64 m.b), (.int .i64 m.c), (.int .i64 m.d)]
/-- the four numbers are entries -/
def ok (m : Mat) : Bool := allW [m.a, m.b, m.c, m.d] 1000000000
/-- m is a matrix -/
def is (m : Mat) : Bool := isM m.a m.b m.c m.d
theorem ok_ent {m : Mat} (h : m.ok = true) : Ent m.a ∧ Ent m.b ∧ Ent m.c ∧ Ent m.d := (allW4 _ _ _ _).1 h
theorem is_ent {m : Mat} (h : m.is = true) : Ent m.a ∧ Ent m.b ∧ Ent m.c ∧ Ent m.d ∧ m.a * m.d - m.b * m.c = 1 := isM_ent h
theorem is_ok {m : Mat} (h : m.is = true) : m.ok = true := by
  obtain ⟨h1, h2, h3, h4, _⟩ := is_ent h
  exact (allW4 _ _ _ _).2 ⟨h1, h2, h3, h4⟩
end Mat

def matCells (ms : List Mat) : List Value := ms.flatMap Mat.cells
theorem matCells_get (ms : List Mat) (k j : Nat) (hk : k < ms.length) (hj : j < 4) : (matCells ms)[4 * k + j]? = (ms[k].cells)[j]? := by
  induction ms generalizing k with
  | nil => simp at hk
  | cons m r ih =>
    cases k with
    | zero =>
      show (m.cells ++ r.flatMap Mat.cells)[4 * 0 + j]? = _
      rw [List.getElem?_append_left (by simp [Mat.cells]; omega)]
      simp
    | succ k =>
      show (m.cells ++ r.flatMap Mat.cells)[4 * (k + 1) + j]? = _
      rw [List.getElem?_append_right (by simp [Mat.cells]; omega), show 4 * (k + 1) + j - m.cells.length = 4 * k + j by simp [Mat.cells]; omega]
      simpa [matCells] using ih k (by simpa using hk)

theorem box_at {w : World} {g : Nat} {ms : List Mat} (h : Box w g (matCells ms)) (k : Nat) (hk : k < ms.length) :
    w.cell? ⟨g, k * 4, none⟩ = some (.int .i64 (ms[k].a)) ∧ w.cell? ⟨g, k * 4 + 1, none⟩ = some (.int .i64 (ms[k].b)) ∧ w.cell? ⟨g, k * 4 + 2, none⟩ = some (.int .i64 (ms[k].c)) ∧ w.cell? ⟨g, k * 4 + 3, none⟩ = some (.int .i64 (ms[k].d)) := by
  rw [Nat.mul_comm k 4]
  exact ⟨(h.2 (4 * k + 0) _ (by rw [matCells_get ms k 0 hk (by omega)]; rfl)).1, (h.2 (4 * k + 1) _ (by rw [matCells_get ms k 1 hk (by omega)]; rfl)).1,
    (h.2 (4 * k + 2) _ (by rw [matCells_get ms k 2 hk (by omega)]; rfl)).1, (h.2 (4 * k + 3) _ (by rw [matCells_get ms k 3 hk (by omega)]; rfl)).1⟩

theorem box_at' {w : World} {g : Nat} {ms : List Mat} (h : Box w g (matCells ms)) (k : Nat) (hk : k < ms.length) {m : Mat} (hm : Hid (ms[k] = m)) :
    w.cell? ⟨g, k * 4, none⟩ = some (.int .i64 m.a) ∧ w.cell? ⟨g, k * 4 + 1, none⟩ = some (.int .i64 m.b) ∧ w.cell? ⟨g, k * 4 + 2, none⟩ = some (.int .i64 m.c) ∧ w.cell? ⟨g, k * 4 + 3, none⟩ = some (.int .i64 m.d) := by
  have := box_at h k hk
  rwa [hm.out] at this

/-- The product of a list from the left, behind p; none where a number on the way is too great. -/
def prod : Mat → List Mat → Option Mat
  | p, [] => some p
  | p, m :: r => if (p.mul m).ok then prod (p.mul m) r else none
/-- What the product of a list comes to: a matrix and a code. -/
def PA (ms : List Mat) (r : Mat) (k : Int) : Prop :=
  (ms.all Mat.is = false ∧ r = Mat.zero ∧ k = 1) ∨ (ms.all Mat.is = true ∧ prod Mat.one ms = none ∧ r = Mat.zero ∧ k = 3) ∨ (ms.all Mat.is = true ∧ prod Mat.one ms = some r ∧ k = 0)
end Go.Proofs.YtfgbmddmmgipnaaDoor
