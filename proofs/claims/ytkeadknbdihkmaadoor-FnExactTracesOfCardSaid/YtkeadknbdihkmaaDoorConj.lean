/- Contracts of ConjugateBy and CommutatorOf. -/
import Derived.Test.YtkeadknbdihkmaaDoorProd
import Derived.Test.YtkeadknbdihkmaaDoorInv
namespace Go.Proofs.YtkeadknbdihkmaaDoor
open Go.ChangeShapes Go.WideShapes Go.ChangeAt Go.RowKit

/-- the inverse as the program reckons it, of any four int64 numbers -/
def Mat.inv (m : Mat) : Mat := ⟨m.d, wrap64 (-m.b), wrap64 (-m.c), m.a⟩
theorem Mat.inv_of (m : Mat) (h : m.is = true) : m.inv = ⟨m.d, -m.b, -m.c, m.a⟩ := by
  obtain ⟨_, ⟨_, _⟩, ⟨_, _⟩, _, _⟩ := Mat.is_ent h
  unfold Mat.inv
  rw [IntWalk.wrap64_in _ (by omega), IntWalk.wrap64_in _ (by omega)]
theorem Mat.inv_is (m : Mat) (h : m.is = true) : m.inv.is = true := by
  rw [Mat.inv_of m h]
  obtain ⟨⟨_, _⟩, ⟨_, _⟩, ⟨_, _⟩, ⟨_, _⟩, hd⟩ := Mat.is_ent h
  refine decide_eq_true ⟨by constructor <;> assumption, by constructor <;> (dsimp only; omega), by constructor <;> (dsimp only; omega), by constructor <;> assumption, ?_⟩
  dsimp only
  rw [Int.neg_mul_neg, Int.mul_comm m.d m.a]
  exact hd

set_option maxHeartbeats 400000 in
theorem implInverse_gen (m : Mat) (w : World) :
    Calls Tryd.prog 47 #[(.agg #[.int .i64 m.a, .int .i64 m.b, .int .i64 m.c, .int .i64 m.d])] w fun e w' => e = .returned (.agg #[.int .i64 m.inv.a, .int .i64 m.inv.b, .int .i64 m.inv.c, .int .i64 m.inv.d]) ∧ Below w.heap.size w w' := by
  go_enter Tryd.func47, Tryd.ntmps47
  go_wp2
  exact bodyPost_ret (v := (.agg #[.int .i64 m.inv.a, .int .i64 m.inv.b, .int .i64 m.inv.c, .int .i64 m.inv.d])) (by simp [results, Tryd.results47, go_sem, Mat.inv]) rfl ⟨rfl, by repeat (first | with_reducible exact own_refl _ | with_reducible assumption | with_reducible apply own_alloc | with_reducible apply own_drewN | with_reducible apply own_drew | ((with_reducible refine own_setCell ?_ ?_ _); rotate_left; focus (first | (simp; done) | (simp; omega))) | (with_reducible (refine own_trans ?_ (by assumption))))⟩
theorem specInverse_m (m : Mat) (h : m.is = true) (w : World) :
    Calls Tryd.prog 44 #[(.agg #[.int .i64 m.a, .int .i64 m.b, .int .i64 m.c, .int .i64 m.d])] w fun e w' => e = .returned (.agg #[.int .i64 m.inv.a, .int .i64 m.inv.b, .int .i64 m.inv.c, .int .i64 m.inv.d]) ∧ Below w.heap.size w w' := by
  rw [Mat.inv_of m h]
  obtain ⟨_, eb, ec, _, _⟩ := Mat.is_ent h
  exact specInverse_ent _ _ _ _ eb ec w

end Go.Proofs.YtkeadknbdihkmaaDoor
