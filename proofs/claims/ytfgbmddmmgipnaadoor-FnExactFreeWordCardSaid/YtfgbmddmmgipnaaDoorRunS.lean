/- spec.l02Runs: contract. -/
import Derived.Test.YtfgbmddmmgipnaaDoorRunM
import Derived.Test.YtfgbmddmmgipnaaDoorGr
import Derived.Test.YtfgbmddmmgipnaaDoorEqM
namespace Go.Proofs.YtfgbmddmmgipnaaDoor
open Go.ChangeShapes Go.WideShapes Go.ChangeAt Go.RowKit

theorem Gr.made (w : World) (L : Nat) (hL : L ≤ w.heap.size) : Gr (w.alloc (.cells #[] 2)) L (.slice (some ⟨w.heap.size, 0, none⟩) 0 0) [] :=
  World.ownsRow_made w #[] 0 hL (by unfold maxLen; omega) (by simp)
theorem Gr.madeAt {w : World} {L g : Nat} (hg : w.heap.size = g) (hL : L ≤ g) : Gr (w.alloc (.cells #[] 2)) L (.slice (some ⟨g, 0, none⟩) 0 0) [] := hg ▸ Gr.made w L (hg ▸ hL)
/-- What the block holds of a state: turned about at odd turns. -/
def Turned (t : Nat) (a b c d e f g h : Int) : Prop := (t % 2 = 0 ∧ a = e ∧ b = f ∧ c = g ∧ d = h) ∨ (t % 2 = 1 ∧ d = e ∧ c = f ∧ b = g ∧ a = h)
/-- What a round of the spec's machine keeps. -/
def RS (w wr : World) (v : Value) (xs : List Int) (e f g h : Int) : Prop := Below w.heap.size w wr ∧ w.heap.size + 1 ≤ wr.heap.size ∧ Gr wr (w.heap.size + 1) v xs ∧ Box wr w.heap.size [.int .i64 e, .int .i64 f, .int .i64 g, .int .i64 h]

set_option maxRecDepth 100000 in
theorem RS.step {w wr w2 : World} {v : Value} {xs : List Int} {e f g h : Int} (hr : RS w wr v xs e f g h) (hb : Below wr.heap.size wr w2) : RS w w2 v xs e f g h :=
  ⟨own_trans hr.1 hb, Nat.le_trans hr.2.1 hb.size, hr.2.2.1.own hb, hr.2.2.2.below hb⟩
theorem RS.drew {w wr : World} {v : Value} {xs : List Int} {e f g h : Int} (hr : RS w wr v xs e f g h) : RS w wr.drew v xs e f g h := ⟨hr.1.drew, hr.2.1, hr.2.2.1, hr.2.2.2⟩
theorem RS.drewN {w wr : World} {v : Value} {xs : List Int} {e f g h : Int} (hr : RS w wr v xs e f g h) (n : Nat) : RS w (wr.drewN n) v xs e f g h := ⟨below_drewN' hr.1 n, hr.2.1, hr.2.2.1, hr.2.2.2⟩
theorem RS.top {w wr : World} {v : Value} {xs : List Int} {e f g h : Int} (hr : RS w wr v xs e f g h) (n : Nat) (x y : Int) :
    RS w (((wr.drewN n).setCell ⟨w.heap.size, 0, none⟩ (.int .i64 x)).setCell ⟨w.heap.size, 1, none⟩ (.int .i64 y)).drew v xs x y g h := by
  have hr := RS.drewN hr n
  refine RS.drew ⟨own_setCell (own_setCell hr.1 (Nat.le_refl _) _) (Nat.le_refl _) _, by simpa [World.setCell] using hr.2.1, (hr.2.2.1.set (Nat.lt_succ_self _) _).set (Nat.lt_succ_self _) _, ?_⟩
  exact (hr.2.2.2.set 0 (by simp) (.int .i64 x)).set 1 (by simp) (.int .i64 y)
theorem RS.bot {w wr : World} {v : Value} {xs : List Int} {e f g h : Int} (hr : RS w wr v xs e f g h) (n : Nat) (x y : Int) :
    RS w (((wr.drewN n).setCell ⟨w.heap.size, 2, none⟩ (.int .i64 x)).setCell ⟨w.heap.size, 3, none⟩ (.int .i64 y)).drew v xs e f x y := by
  have hr := RS.drewN hr n
  refine RS.drew ⟨own_setCell (own_setCell hr.1 (Nat.le_refl _) _) (Nat.le_refl _) _, by simpa [World.setCell] using hr.2.1, (hr.2.2.1.set (Nat.lt_succ_self _) _).set (Nat.lt_succ_self _) _, ?_⟩
  exact (hr.2.2.2.set 2 (by simp) (.int .i64 x)).set 3 (by simp) (.int .i64 y)
theorem RS.four {w wr : World} {v : Value} {xs : List Int} {e f g h : Int} (hr : RS w wr v xs e f g h) :
    wr.cell? ⟨w.heap.size, 0, none⟩ = some (.int .i64 e) ∧ wr.cell? ⟨w.heap.size, 1, none⟩ = some (.int .i64 f) ∧ wr.cell? ⟨w.heap.size, 2, none⟩ = some (.int .i64 g) ∧ wr.cell? ⟨w.heap.size, 3, none⟩ = some (.int .i64 h) ∧
      wr.frozen? ⟨w.heap.size, 0, none⟩ = false ∧ wr.frozen? ⟨w.heap.size, 1, none⟩ = false ∧ wr.frozen? ⟨w.heap.size, 2, none⟩ = false ∧ wr.frozen? ⟨w.heap.size, 3, none⟩ = false := hr.2.2.2.four.2

end Go.Proofs.YtfgbmddmmgipnaaDoor
