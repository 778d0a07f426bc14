/- impl.runsOfPositive: contract. -/
import Derived.Test.YtfchfakkbdfajaaDoorRunM
import Derived.Test.YtfchfakkbdfajaaDoorGr
import Derived.Test.YtfchfakkbdfajaaDoorMul
import Derived.Test.YtfchfakkbdfajaaDoorEqM
import Derived.Test.YtfchfakkbdfajaaDoorPA
namespace Go.Proofs.YtfchfakkbdfajaaDoor
open Go.ChangeShapes Go.WideShapes Go.ChangeAt Go.RowKit

set_option maxHeartbeats 400000 in
theorem powerOfT_any (k : Int) (w : World) :
    Calls Tryd.prog 39 #[(.int .i64 k)] w fun e w' => e = .returned (.agg #[.int .i64 1, .int .i64 k, .int .i64 0, .int .i64 1]) ∧ Below w.heap.size w w' := by
  go_enter Tryd.func39, Tryd.ntmps39
  go_wp2
  exact bodyPost_ret (v := (.agg #[.int .i64 1, .int .i64 k, .int .i64 0, .int .i64 1])) (by simp [results, Tryd.results39, go_sem]) rfl ⟨rfl, by repeat (first | with_reducible exact own_refl _ | with_reducible assumption | with_reducible apply own_alloc | with_reducible apply own_drewN | with_reducible apply own_drew | ((with_reducible refine own_setCell ?_ ?_ _); rotate_left; focus (first | (simp; done) | (simp; omega))) | (with_reducible (refine own_trans ?_ (by assumption))))⟩
/-- T^-n times a matrix. -/
theorem multiply_step (a b c d n x y : Int) (hx : a - n * c = x) (hy : b - n * d = y) (hn : Ent (-n)) (ha : Ent a) (hb : Ent b) (hc : Ent c) (hd : Ent d) (w : World) :
    Calls Tryd.prog 73 #[(.agg #[.int .i64 1, .int .i64 (-n), .int .i64 0, .int .i64 1]), (.agg #[.int .i64 a, .int .i64 b, .int .i64 c, .int .i64 d])] w fun r w' => r = .returned (.agg #[.int .i64 x, .int .i64 y, .int .i64 c, .int .i64 d]) ∧ Below w.heap.size w w' := by
  subst hx hy
  have h := multiply_ent 1 (-n) 0 1 a b c d (by unfold Ent; omega) hn (by unfold Ent; omega) (by unfold Ent; omega) ha hb hc hd w
  have e1 : 1 * a + -n * c = a - n * c := by grind
  have e2 : 1 * b + -n * d = b - n * d := by grind
  have e3 : 0 * a + 1 * c = c := by grind
  have e4 : 0 * b + 1 * d = d := by grind
  rwa [e1, e2, e3, e4] at h

theorem multiply_step' (a b c d n z x y : Int) (hz : z = -n) (hx : a - n * c = x) (hy : b - n * d = y) (hn : Ent (-n)) (ha : Ent a) (hb : Ent b) (hc : Ent c) (hd : Ent d) (w : World) :
    Calls Tryd.prog 73 #[(.agg #[.int .i64 1, .int .i64 z, .int .i64 0, .int .i64 1]), (.agg #[.int .i64 a, .int .i64 b, .int .i64 c, .int .i64 d])] w fun r w' => r = .returned (.agg #[.int .i64 x, .int .i64 y, .int .i64 c, .int .i64 d]) ∧ Below w.heap.size w w' := by
  subst hz
  exact multiply_step a b c d n x y hx hy hn ha hb hc hd w

/-- What the round keeps while its calls run. -/
def RI (w wr : World) (v : Value) (xs : List Int) (a b c d : Int) : Prop := Below w.heap.size w wr ∧ w.heap.size + 1 ≤ wr.heap.size ∧ Gr wr (w.heap.size + 1) v xs ∧ Box wr w.heap.size [.int .i64 a, .int .i64 b, .int .i64 c, .int .i64 d]
theorem RI.step {w wr w2 : World} {v : Value} {xs : List Int} {a b c d : Int} (h : RI w wr v xs a b c d) (hb : Below wr.heap.size wr w2) : RI w w2 v xs a b c d :=
  ⟨own_trans h.1 hb, Nat.le_trans h.2.1 hb.size, h.2.2.1.own hb, h.2.2.2.below hb⟩
theorem RI.drew {w wr : World} {v : Value} {xs : List Int} {a b c d : Int} (h : RI w wr v xs a b c d) : RI w wr.drew v xs a b c d := ⟨h.1.drew, h.2.1, h.2.2.1, h.2.2.2⟩
theorem RI.four {w wr : World} {v : Value} {xs : List Int} {a b c d : Int} (h : RI w wr v xs a b c d) :
    wr.cell? ⟨w.heap.size, 0, none⟩ = some (.int .i64 a) ∧ wr.cell? ⟨w.heap.size, 1, none⟩ = some (.int .i64 b) ∧ wr.cell? ⟨w.heap.size, 2, none⟩ = some (.int .i64 c) ∧ wr.cell? ⟨w.heap.size, 3, none⟩ = some (.int .i64 d) ∧
      wr.frozen? ⟨w.heap.size, 0, none⟩ = false ∧ wr.frozen? ⟨w.heap.size, 1, none⟩ = false ∧ wr.frozen? ⟨w.heap.size, 2, none⟩ = false ∧ wr.frozen? ⟨w.heap.size, 3, none⟩ = false := h.2.2.2.four.2

end Go.Proofs.YtfchfakkbdfajaaDoor
