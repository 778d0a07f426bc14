/- Contract of spec.l01Times. -/
import Derived.Test.YtkeadknbdihkmaaDoorMat
import Derived.Test.YtkeadknbdihkmaaDoorMul
namespace Go.Proofs.YtkeadknbdihkmaaDoor
open Go.ChangeShapes Go.WideShapes Go.ChangeAt Go.RowKit

/-- What l01Times comes to. -/
def TM (p m q : Mat) (b : Bool) : Prop := ((p.mul m).ok = true ∧ q = p.mul m ∧ b = true) ∨ ((p.mul m).ok = false ∧ q = Mat.zero ∧ b = false)
theorem TM.any (p m : Mat) : ∃ q b, TM p m q b := by
  rcases h : (p.mul m).ok with _ | _
  · exact ⟨_, _, .inr ⟨h, rfl, rfl⟩⟩
  · exact ⟨_, _, .inl ⟨h, rfl, rfl⟩⟩
theorem times_is (p m q : Mat) (b : Bool) (ha : Ent p.a) (hb : Ent p.b) (hc : Ent p.c) (hd : Ent p.d) (he : Ent m.a) (hf : Ent m.b) (hg : Ent m.c) (hh : Ent m.d) (h : TM p m q b) (w : World) :
    Calls Tryd.prog 43 #[(.agg #[.int .i64 p.a, .int .i64 p.b, .int .i64 p.c, .int .i64 p.d]), (.agg #[.int .i64 m.a, .int .i64 m.b, .int .i64 m.c, .int .i64 m.d])] w fun r w' => r = .returned (.tuple #[(.agg #[.int .i64 q.a, .int .i64 q.b, .int .i64 q.c, .int .i64 q.d]), .bool b]) ∧ Below w.heap.size w w' := by
  rcases h with ⟨h, rfl, rfl⟩ | ⟨h, rfl, rfl⟩
  · exact times_yes _ _ _ _ _ _ _ _ ha hb hc hd he hf hg hh h w
  · exact times_no _ _ _ _ _ _ _ _ ha hb hc hd he hf hg hh h w

end Go.Proofs.YtkeadknbdihkmaaDoor
