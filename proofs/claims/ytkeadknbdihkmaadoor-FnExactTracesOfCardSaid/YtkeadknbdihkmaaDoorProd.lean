/- Contracts of ProductOf. -/
import Derived.Test.YtkeadknbdihkmaaDoorPA
import Derived.Test.YtkeadknbdihkmaaDoorSP
namespace Go.Proofs.YtkeadknbdihkmaaDoor
open Go.ChangeShapes Go.WideShapes Go.ChangeAt Go.RowKit

theorem Mat.one_mul (m : Mat) : Mat.one.mul m = m := by
  cases m; simp [Mat.one, Mat.mul]
/-- Both sides of a product: of matrices, PA is what SP says. -/
theorem SP_of_PA {ms : List Mat} {r : Mat} {k : Int} (h0 : 0 < ms.length) (ha : ms.all Mat.is = true) (h : PA ms r k) : SP ms r k := by
  have e : prod Mat.one ms = prod ms[0] (ms.drop 1) := by
    cases ms with
    | nil => simp at h0
    | cons m t =>
      have hm : m.is = true := by simp at ha; exact ha.1
      rw [prod, Mat.one_mul, if_pos (Mat.is_ok hm)]
      rfl
  refine ⟨h0, ?_⟩
  rw [← e]
  exact PA_good h ha
theorem PA_ex (ms : List Mat) : ∃ r k, PA ms r k := by
  rcases ha : ms.all Mat.is with _ | _
  · exact ⟨_, _, .inl ⟨ha, rfl, rfl⟩⟩
  · rcases hp : prod Mat.one ms with _ | r
    · exact ⟨_, _, .inr (.inl ⟨ha, hp, rfl, rfl⟩)⟩
    · exact ⟨r, _, .inr (.inr ⟨ha, hp, rfl⟩)⟩

set_option maxHeartbeats 1000000 in
theorem implProd_any (m n r : Mat) (k : Int) (h : PA [m, n] r k) (w : World) (hid : Idn w) :
    Calls Tryd.prog 46 #[(.agg #[.int .i64 m.a, .int .i64 m.b, .int .i64 m.c, .int .i64 m.d]), (.agg #[.int .i64 n.a, .int .i64 n.b, .int .i64 n.c, .int .i64 n.d])] w fun e w' => e = .returned (.tuple #[(.agg #[.int .i64 r.a, .int .i64 r.b, .int .i64 r.c, .int .i64 r.d]), (.int .i64 k)]) ∧ Below w.heap.size w w' := by
  have H := Lib.hid h
  clear h
  go_enter Tryd.func46, Tryd.ntmps46
  go_wp2_with fail
  refine (prodAll_any [m, n] (w.heap.size + 1 + 1 + 1) 2 (by simp) r k H.out _ ((((Rd.alloc hid _).alloc _).alloc _).alloc _) (Box.newAt (by simp) _ _)).mono ?_
  rintro e w1 ⟨rfl, hb1⟩
  have R1 : Box w1 (w.heap.size + 1 + 1) [.int .i64 0, .int .i64 0, .int .i64 0, .int .i64 0] := by refine Box.below ?_ hb1; repeat (first | exact Box.newAt (by simp) _ _ | apply Box.alloc)
  obtain ⟨_, d0, d1, d2, d3, _, _, _, _⟩ := R1.four
  go_wp2
  exact bodyPost_ret (v := .tuple #[(.agg #[.int .i64 r.a, .int .i64 r.b, .int .i64 r.c, .int .i64 r.d]), (.int .i64 k)]) (by simp [results, Tryd.results46, go_sem, d0, d1, d2, d3]) rfl ⟨rfl, by repeat (first | with_reducible exact own_refl _ | with_reducible assumption | with_reducible apply own_alloc | with_reducible apply own_drewN | with_reducible apply own_drew | ((with_reducible refine own_setCell ?_ ?_ _); rotate_left; focus (first | (simp; done) | (simp; omega))) | (with_reducible (refine own_trans ?_ (by assumption))))⟩

theorem l01Is_m (r : Bool) (m : Mat) (h : m.is = r) (w : World) :
    Calls Tryd.prog 42 #[(.agg #[.int .i64 m.a, .int .i64 m.b, .int .i64 m.c, .int .i64 m.d])] w fun e w' => e = .returned (.bool r) ∧ Below w.heap.size w w' := l01Is_is r m.a m.b m.c m.d w h
theorem PA_not {ms : List Mat} {r : Mat} {k : Int} (h : PA ms r k) (ha : ms.all Mat.is = false) : r = Mat.zero ∧ k = 1 := by
  rcases h with ⟨_, h1, h2⟩ | ⟨h, _⟩ | ⟨h, _⟩
  · exact ⟨h1, h2⟩
  · rw [ha] at h; cases h
  · rw [ha] at h; cases h

end Go.Proofs.YtkeadknbdihkmaaDoor
