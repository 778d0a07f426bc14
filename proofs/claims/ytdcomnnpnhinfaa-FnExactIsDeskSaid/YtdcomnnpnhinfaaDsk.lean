/- Desks: both sides' new desk and IsDesk; what a law does with desks. -/
import Derived.Test.YtdcomnnpnhinfaaA
import Derived.Test.YtdcomnnpnhinfaaTo
import Derived.Test.YtdcomnnpnhinfaaB
import Derived.Test.YtdcomnnpnhinfaaF
namespace Go.Proofs.Ytdcomnnpnhinfaa
open Go.ChangeShapes Go.WideShapes Go.ChangeAt Go.RowKit

theorem Box.get {w : World} {g : Nat} {xs : List Value} (h : Box w g xs) (i : Nat) (v : Value) (e : xs[i]? = some v) : w.cell? ⟨g, i, none⟩ = some v ∧ w.frozen? ⟨g, i, none⟩ = false := h.2 i v e
theorem Box.seven {w : World} {g : Nat} {x0 x1 x2 x3 x4 x5 x6 : Value} (h : Box w g [x0, x1, x2, x3, x4, x5, x6]) :
    g < w.heap.size ∧ (w.cell? ⟨g, 0, none⟩ = some x0 ∧ w.cell? ⟨g, 1, none⟩ = some x1 ∧ w.cell? ⟨g, 2, none⟩ = some x2 ∧ w.cell? ⟨g, 3, none⟩ = some x3 ∧ w.cell? ⟨g, 4, none⟩ = some x4 ∧ w.cell? ⟨g, 5, none⟩ = some x5 ∧ w.cell? ⟨g, 6, none⟩ = some x6) ∧
      w.frozen? ⟨g, 0, none⟩ = false ∧ w.frozen? ⟨g, 1, none⟩ = false ∧ w.frozen? ⟨g, 2, none⟩ = false ∧ w.frozen? ⟨g, 3, none⟩ = false ∧ w.frozen? ⟨g, 4, none⟩ = false ∧ w.frozen? ⟨g, 5, none⟩ = false ∧ w.frozen? ⟨g, 6, none⟩ = false :=
  ⟨h.1, ⟨(h.get 0 _ rfl).1, (h.get 1 _ rfl).1, (h.get 2 _ rfl).1, (h.get 3 _ rfl).1, (h.get 4 _ rfl).1, (h.get 5 _ rfl).1, (h.get 6 _ rfl).1⟩, (h.get 0 _ rfl).2, (h.get 1 _ rfl).2, (h.get 2 _ rfl).2, (h.get 3 _ rfl).2, (h.get 4 _ rfl).2, (h.get 5 _ rfl).2, (h.get 6 _ rfl).2⟩
theorem Box.put7 {w : World} {g : Nat} {x0 x1 x2 x3 x4 x5 x6 : Value} (h : Box w g [x0, x1, x2, x3, x4, x5, x6]) (y0 y1 y2 y3 y4 y5 y6 : Value) :
    Box (((((((w.setCell ⟨g, 0, none⟩ y0).setCell ⟨g, 1, none⟩ y1).setCell ⟨g, 2, none⟩ y2).setCell ⟨g, 3, none⟩ y3).setCell ⟨g, 4, none⟩ y4).setCell ⟨g, 5, none⟩ y5).setCell ⟨g, 6, none⟩ y6) g [y0, y1, y2, y3, y4, y5, y6] :=
  ((((((h.set 0 (by simp) y0).set 1 (by simp) y1).set 2 (by simp) y2).set 3 (by simp) y3).set 4 (by simp) y4).set 5 (by simp) y5).set 6 (by simp) y6
theorem own7 {w w' : World} {g : Nat} (h : Below w.heap.size w w') (hg : w.heap.size ≤ g) (y0 y1 y2 y3 y4 y5 y6 : Value) :
    Below w.heap.size w (((((((w'.setCell ⟨g, 0, none⟩ y0).setCell ⟨g, 1, none⟩ y1).setCell ⟨g, 2, none⟩ y2).setCell ⟨g, 3, none⟩ y3).setCell ⟨g, 4, none⟩ y4).setCell ⟨g, 5, none⟩ y5).setCell ⟨g, 6, none⟩ y6) :=
  own_setCell (own_setCell (own_setCell (own_setCell (own_setCell (own_setCell (own_setCell h hg y0) hg y1) hg y2) hg y3) hg y4) hg y5) hg y6
set_option maxHeartbeats 2000000 in
theorem implNew_is (w : World) : Calls Try.prog 7 #[] w fun e w' => e = .returned (.agg #[(.int .i64 2), (.int .i64 1), (.int .i64 1), (.int .i64 1), (.int .i64 1), (.int .i64 0), (.int .i64 2)]) ∧ Below w.heap.size w w' := by
  go_enter Try.func7, Try.ntmps7
  go_wp2
  exact bodyPost_ret (v := .agg #[(.int .i64 2), (.int .i64 1), (.int .i64 1), (.int .i64 1), (.int .i64 1), (.int .i64 0), (.int .i64 2)]) (by simp [results, Try.results7, go_sem]) rfl ⟨rfl, by repeat (first | with_reducible exact own_refl _ | with_reducible assumption | with_reducible apply own_alloc | with_reducible apply own_drewN | with_reducible apply own_drew | ((with_reducible refine own_setCell ?_ ?_ _); rotate_left; focus (first | (simp; done) | (simp; omega))) | (with_reducible (refine own_trans ?_ (by assumption))))⟩
set_option maxHeartbeats 2000000 in
theorem l11New_is (w : World) : Calls Try.prog 14 #[] w fun e w' => e = .returned (.agg #[(.int .i64 2), (.int .i64 1), (.int .i64 1), (.int .i64 1), (.int .i64 1), (.int .i64 0), (.int .i64 2)]) ∧ Below w.heap.size w w' := by
  go_enter Try.func14, Try.ntmps14
  go_wp2
  exact bodyPost_ret (v := .agg #[(.int .i64 2), (.int .i64 1), (.int .i64 1), (.int .i64 1), (.int .i64 1), (.int .i64 0), (.int .i64 2)]) (by simp [results, Try.results14, go_sem]) rfl ⟨rfl, by repeat (first | with_reducible exact own_refl _ | with_reducible assumption | with_reducible apply own_alloc | with_reducible apply own_drewN | with_reducible apply own_drew | ((with_reducible refine own_setCell ?_ ?_ _); rotate_left; focus (first | (simp; done) | (simp; omega))) | (with_reducible (refine own_trans ?_ (by assumption))))⟩
set_option maxHeartbeats 4000000 in
theorem specNew_is (w : World) : Calls Try.prog 6 #[] w fun e w' => e = .returned (.agg #[(.int .i64 2), (.int .i64 1), (.int .i64 1), (.int .i64 1), (.int .i64 1), (.int .i64 0), (.int .i64 2)]) ∧ Below w.heap.size w w' := by
  go_enter Try.func6, Try.ntmps6
  go_wp2_with fail
  refine (l11New_is _).mono ?_
  rintro e w2 ⟨rfl, hb⟩
  have B : Box w2 w.heap.size [(.int .i64 0), (.int .i64 0), (.int .i64 0), (.int .i64 0), (.int .i64 0), (.int .i64 0), (.int .i64 0)] := Box.below (Box.new _ _ _) hb
  have T : Below w.heap.size w w2 := own_trans (own_alloc (own_refl w) _) hb
  have B2 := B.put7 (.int .i64 2) (.int .i64 1) (.int .i64 1) (.int .i64 1) (.int .i64 1) (.int .i64 0) (.int .i64 2)
  have T2 := own7 T (Nat.le_refl _) (.int .i64 2) (.int .i64 1) (.int .i64 1) (.int .i64 1) (.int .i64 1) (.int .i64 0) (.int .i64 2)
  obtain ⟨-, ⟨c0, c1, c2, c3, c4, c5, c6⟩, f0, f1, f2, f3, f4, f5, f6⟩ := B.seven
  clear hb B
  go_wp2
  obtain ⟨-, ⟨c0, c1, c2, c3, c4, c5, c6⟩, f0, f1, f2, f3, f4, f5, f6⟩ := B2.seven
  exact bodyPost_ret (v := .agg #[(.int .i64 2), (.int .i64 1), (.int .i64 1), (.int .i64 1), (.int .i64 1), (.int .i64 0), (.int .i64 2)]) (by simp [results, Try.results6, go_sem, c0, c1, c2, c3, c4, c5, c6]) rfl ⟨rfl, T2⟩
/-- a desk's value -/
def DV (a b c d p q n : Int) : Value := .agg #[(.int .i64 a), (.int .i64 b), (.int .i64 c), (.int .i64 d), (.int .i64 p), (.int .i64 q), (.int .i64 n)]
set_option maxHeartbeats 4000000 in
theorem eqDesk_same (a b c d p q n : Int) (w : World) : Calls Try.prog 8 #[.agg #[(.int .i64 a), (.int .i64 b), (.int .i64 c), (.int .i64 d), (.int .i64 p), (.int .i64 q), (.int .i64 n)], .agg #[(.int .i64 a), (.int .i64 b), (.int .i64 c), (.int .i64 d), (.int .i64 p), (.int .i64 q), (.int .i64 n)]] w fun e w' => e = .returned (.bool true) ∧ Below w.heap.size w w' := by
  have B0 : Box ((w.alloc (.cells #[(.int .i64 a), (.int .i64 b), (.int .i64 c), (.int .i64 d), (.int .i64 p), (.int .i64 q), (.int .i64 n)] 27)).alloc (.cells #[(.int .i64 a), (.int .i64 b), (.int .i64 c), (.int .i64 d), (.int .i64 p), (.int .i64 q), (.int .i64 n)] 27)) w.heap.size [(.int .i64 a), (.int .i64 b), (.int .i64 c), (.int .i64 d), (.int .i64 p), (.int .i64 q), (.int .i64 n)] := (Box.new _ _ _).alloc _
  have C0 : Box ((w.alloc (.cells #[(.int .i64 a), (.int .i64 b), (.int .i64 c), (.int .i64 d), (.int .i64 p), (.int .i64 q), (.int .i64 n)] 27)).alloc (.cells #[(.int .i64 a), (.int .i64 b), (.int .i64 c), (.int .i64 d), (.int .i64 p), (.int .i64 q), (.int .i64 n)] 27)) (w.heap.size + 1) [(.int .i64 a), (.int .i64 b), (.int .i64 c), (.int .i64 d), (.int .i64 p), (.int .i64 q), (.int .i64 n)] := Box.newAt (by simp) _ _
  have T0 := own_alloc (own_alloc (own_refl w) (.cells #[(.int .i64 a), (.int .i64 b), (.int .i64 c), (.int .i64 d), (.int .i64 p), (.int .i64 q), (.int .i64 n)] 27)) (.cells #[(.int .i64 a), (.int .i64 b), (.int .i64 c), (.int .i64 d), (.int .i64 p), (.int .i64 q), (.int .i64 n)] 27)
  go_enter Try.func8, Try.ntmps8
  go_upto_region 1 with fail
  generalize (w.alloc (.cells #[(.int .i64 a), (.int .i64 b), (.int .i64 c), (.int .i64 d), (.int .i64 p), (.int .i64 q), (.int .i64 n)] 27)).alloc (.cells #[(.int .i64 a), (.int .i64 b), (.int .i64 c), (.int .i64 d), (.int .i64 p), (.int .i64 q), (.int .i64 n)] 27) = w0 at *
  obtain ⟨-, ⟨c0, c1, c2, c3, c4, c5, c6⟩, -⟩ := B0.seven
  obtain ⟨-, ⟨d0, d1, d2, d3, d4, d5, d6⟩, -⟩ := C0.seven
  go_wp2_with fail
  refine (eqMatrix_same _ _ _ _ _).mono ?_
  rintro e w2 ⟨rfl, hb⟩
  have T2 := own_trans T0 hb
  have B1 := B0.below hb
  have C1 := C0.below hb
  clear B0 C0 T0 hb c0 c1 c2 c3 c4 c5 c6 d0 d1 d2 d3 d4 d5 d6
  obtain ⟨-, ⟨c0, c1, c2, c3, c4, c5, c6⟩, -⟩ := B1.seven
  obtain ⟨-, ⟨d0, d1, d2, d3, d4, d5, d6⟩, -⟩ := C1.seven
  go_wp2_with fail
  refine (eqFraction_same _ _ _).mono ?_
  rintro e w3 ⟨rfl, hb⟩
  have T3 := own_trans T2 hb
  have B2 := B1.below hb
  have C2 := C1.below hb
  clear B1 C1 T2 hb c0 c1 c2 c3 c4 c5 c6 d0 d1 d2 d3 d4 d5 d6
  obtain ⟨-, ⟨c0, c1, c2, c3, c4, c5, c6⟩, -⟩ := B2.seven
  obtain ⟨-, ⟨d0, d1, d2, d3, d4, d5, d6⟩, -⟩ := C2.seven
  go_wp2
  go_ret
  exact ⟨rfl, T3⟩
set_option maxHeartbeats 4000000 in
theorem lawNew_walk (w : World) : Calls Try.prog 3 #[] w fun e w' => e = .returned (.bool true) ∧ Below w.heap.size w w' := by
  go_enter Try.func3, Try.ntmps3
  go_wp2_with fail
  refine (specNew_is _).mono ?_
  rintro e w2 ⟨rfl, hb⟩
  go_wp2_with fail
  refine (implNew_is _).mono ?_
  rintro e w3 ⟨rfl, hb3⟩
  have B : Box w3 w2.heap.size [(.int .i64 2), (.int .i64 1), (.int .i64 1), (.int .i64 1), (.int .i64 1), (.int .i64 0), (.int .i64 2)] := Box.below (Box.new _ _ _) hb3
  have C : Box (w3.alloc (.cells #[(.int .i64 2), (.int .i64 1), (.int .i64 1), (.int .i64 1), (.int .i64 1), (.int .i64 0), (.int .i64 2)] 27)) w3.heap.size [(.int .i64 2), (.int .i64 1), (.int .i64 1), (.int .i64 1), (.int .i64 1), (.int .i64 0), (.int .i64 2)] := Box.new _ _ _
  have T : Below w.heap.size w w3 := own_trans hb (own_trans (own_alloc (own_refl w2) _) hb3)
  have B := B.alloc (.cells #[(.int .i64 2), (.int .i64 1), (.int .i64 1), (.int .i64 1), (.int .i64 1), (.int .i64 0), (.int .i64 2)] 27)
  have T := own_alloc T (.cells #[(.int .i64 2), (.int .i64 1), (.int .i64 1), (.int .i64 1), (.int .i64 1), (.int .i64 0), (.int .i64 2)] 27)
  go_upto_region 3 with fail
  generalize w3.alloc (.cells #[(.int .i64 2), (.int .i64 1), (.int .i64 1), (.int .i64 1), (.int .i64 1), (.int .i64 0), (.int .i64 2)] 27) = w4 at *
  obtain ⟨-, ⟨c0, c1, c2, c3, c4, c5, c6⟩, -⟩ := B.seven
  obtain ⟨-, ⟨d0, d1, d2, d3, d4, d5, d6⟩, -⟩ := C.seven
  clear hb hb3
  go_wp2_with fail
  refine (eqDesk_same _ _ _ _ _ _ _ _).mono ?_
  rintro e w5 ⟨rfl, hb5⟩
  go_wp2
  go_ret
  exact ⟨rfl, own_trans T hb5⟩
end Go.Proofs.Ytdcomnnpnhinfaa
