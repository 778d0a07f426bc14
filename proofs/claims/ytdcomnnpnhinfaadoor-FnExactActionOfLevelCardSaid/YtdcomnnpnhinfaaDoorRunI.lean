/- impl.runsOfPositive: contract. -/
import Derived.Test.YtdcomnnpnhinfaaDoorRunM
import Derived.Test.YtdcomnnpnhinfaaDoorGr
import Derived.Test.YtdcomnnpnhinfaaDoorMul
import Derived.Test.YtdcomnnpnhinfaaDoorEqM
import Derived.Test.YtdcomnnpnhinfaaDoorPA
namespace Go.Proofs.YtdcomnnpnhinfaaDoor
open Go.ChangeShapes Go.WideShapes Go.ChangeAt Go.RowKit

set_option maxHeartbeats 400000 in
theorem powerOfT_any (k : Int) (w : World) :
    Calls Tryd.prog 36 #[(.int .i64 k)] w fun e w' => e = .returned (.agg #[.int .i64 1, .int .i64 k, .int .i64 0, .int .i64 1]) ∧ Below w.heap.size w w' := by
  go_enter Tryd.func36, Tryd.ntmps36
  go_wp2
  exact bodyPost_ret (v := (.agg #[.int .i64 1, .int .i64 k, .int .i64 0, .int .i64 1])) (by simp [results, Tryd.results36, go_sem]) rfl ⟨rfl, by repeat (first | with_reducible exact own_refl _ | with_reducible assumption | with_reducible apply own_alloc | with_reducible apply own_drewN | with_reducible apply own_drew | ((with_reducible refine own_setCell ?_ ?_ _); rotate_left; focus (first | (simp; done) | (simp; omega))) | (with_reducible (refine own_trans ?_ (by assumption))))⟩
/-- What the round keeps while its calls run. -/
def RI (w wr : World) (v : Value) (xs : List Int) (a b c d : Int) : Prop := Below w.heap.size w wr ∧ w.heap.size + 1 ≤ wr.heap.size ∧ Gr wr (w.heap.size + 1) v xs ∧ Box wr w.heap.size [.int .i64 a, .int .i64 b, .int .i64 c, .int .i64 d]
theorem RI.step {w wr w2 : World} {v : Value} {xs : List Int} {a b c d : Int} (h : RI w wr v xs a b c d) (hb : Below wr.heap.size wr w2) : RI w w2 v xs a b c d :=
  ⟨own_trans h.1 hb, Nat.le_trans h.2.1 hb.size, h.2.2.1.own hb, h.2.2.2.below hb⟩
theorem RI.drew {w wr : World} {v : Value} {xs : List Int} {a b c d : Int} (h : RI w wr v xs a b c d) : RI w wr.drew v xs a b c d := ⟨h.1.drew, h.2.1, h.2.2.1, h.2.2.2⟩
theorem RI.four {w wr : World} {v : Value} {xs : List Int} {a b c d : Int} (h : RI w wr v xs a b c d) :
    wr.cell? ⟨w.heap.size, 0, none⟩ = some (.int .i64 a) ∧ wr.cell? ⟨w.heap.size, 1, none⟩ = some (.int .i64 b) ∧ wr.cell? ⟨w.heap.size, 2, none⟩ = some (.int .i64 c) ∧ wr.cell? ⟨w.heap.size, 3, none⟩ = some (.int .i64 d) ∧
      wr.frozen? ⟨w.heap.size, 0, none⟩ = false ∧ wr.frozen? ⟨w.heap.size, 1, none⟩ = false ∧ wr.frozen? ⟨w.heap.size, 2, none⟩ = false ∧ wr.frozen? ⟨w.heap.size, 3, none⟩ = false := h.2.2.2.four.2

end Go.Proofs.YtdcomnnpnhinfaaDoor
