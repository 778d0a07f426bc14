/- The walk of the law FnExactReduceForm. -/
import Derived.Test.YtfpgdbdgglbleaaDoorLwReduceForm
import Derived.Test.YtfpgdbdgglbleaaDoorRedI
namespace Go.Proofs.YtfpgdbdgglbleaaDoor
open Go.ChangeShapes Go.WideShapes Go.ChangeAt Go.RowKit

theorem two_res {w wr : World} {g2 g3 : Nat} {x0 x1 x2 u0 u1 u2 u3 : Value} (T : Below w.heap.size w wr) (B2 : Box wr g2 [x0, x1, x2]) (B3 : Box wr g3 [u0, u1, u2, u3]) (l2 : w.heap.size ≤ g2) (l3 : w.heap.size ≤ g3) (e : ¬ g2 = g3) (y0 y1 y2 z0 z1 z2 z3 : Value) :
    Below w.heap.size w (((((((wr.setCell ⟨g2, 0, none⟩ y0).setCell ⟨g2, 1, none⟩ y1).setCell ⟨g2, 2, none⟩ y2).setCell ⟨g3, 0, none⟩ z0).setCell ⟨g3, 1, none⟩ z1).setCell ⟨g3, 2, none⟩ z2).setCell ⟨g3, 3, none⟩ z3) ∧
    (((((((wr.setCell ⟨g2, 0, none⟩ y0).setCell ⟨g2, 1, none⟩ y1).setCell ⟨g2, 2, none⟩ y2).setCell ⟨g3, 0, none⟩ z0).setCell ⟨g3, 1, none⟩ z1).setCell ⟨g3, 2, none⟩ z2).setCell ⟨g3, 3, none⟩ z3).cell? ⟨g2, 0, none⟩ = some y0 ∧
    (((((((wr.setCell ⟨g2, 0, none⟩ y0).setCell ⟨g2, 1, none⟩ y1).setCell ⟨g2, 2, none⟩ y2).setCell ⟨g3, 0, none⟩ z0).setCell ⟨g3, 1, none⟩ z1).setCell ⟨g3, 2, none⟩ z2).setCell ⟨g3, 3, none⟩ z3).cell? ⟨g2, 1, none⟩ = some y1 ∧
    (((((((wr.setCell ⟨g2, 0, none⟩ y0).setCell ⟨g2, 1, none⟩ y1).setCell ⟨g2, 2, none⟩ y2).setCell ⟨g3, 0, none⟩ z0).setCell ⟨g3, 1, none⟩ z1).setCell ⟨g3, 2, none⟩ z2).setCell ⟨g3, 3, none⟩ z3).cell? ⟨g2, 2, none⟩ = some y2 ∧
    (((((((wr.setCell ⟨g2, 0, none⟩ y0).setCell ⟨g2, 1, none⟩ y1).setCell ⟨g2, 2, none⟩ y2).setCell ⟨g3, 0, none⟩ z0).setCell ⟨g3, 1, none⟩ z1).setCell ⟨g3, 2, none⟩ z2).setCell ⟨g3, 3, none⟩ z3).cell? ⟨g3, 0, none⟩ = some z0 ∧
    (((((((wr.setCell ⟨g2, 0, none⟩ y0).setCell ⟨g2, 1, none⟩ y1).setCell ⟨g2, 2, none⟩ y2).setCell ⟨g3, 0, none⟩ z0).setCell ⟨g3, 1, none⟩ z1).setCell ⟨g3, 2, none⟩ z2).setCell ⟨g3, 3, none⟩ z3).cell? ⟨g3, 1, none⟩ = some z1 ∧
    (((((((wr.setCell ⟨g2, 0, none⟩ y0).setCell ⟨g2, 1, none⟩ y1).setCell ⟨g2, 2, none⟩ y2).setCell ⟨g3, 0, none⟩ z0).setCell ⟨g3, 1, none⟩ z1).setCell ⟨g3, 2, none⟩ z2).setCell ⟨g3, 3, none⟩ z3).cell? ⟨g3, 2, none⟩ = some z2 ∧
    (((((((wr.setCell ⟨g2, 0, none⟩ y0).setCell ⟨g2, 1, none⟩ y1).setCell ⟨g2, 2, none⟩ y2).setCell ⟨g3, 0, none⟩ z0).setCell ⟨g3, 1, none⟩ z1).setCell ⟨g3, 2, none⟩ z2).setCell ⟨g3, 3, none⟩ z3).cell? ⟨g3, 3, none⟩ = some z3 := by
  have k2 := ((((B2.put3 y0 y1 y2).far (p := ⟨g3, 0, none⟩) e z0).far (p := ⟨g3, 1, none⟩) e z1).far (p := ⟨g3, 2, none⟩) e z2).far (p := ⟨g3, 3, none⟩) e z3
  have e' : ¬ g3 = g2 := fun k => e k.symm
  have k3 := (((B3.far (p := ⟨g2, 0, none⟩) e' y0).far (p := ⟨g2, 1, none⟩) e' y1).far (p := ⟨g2, 2, none⟩) e' y2).put4 z0 z1 z2 z3
  obtain ⟨_, a0, a1, a2, _⟩ := k2.three
  obtain ⟨_, b0, b1, b2, b3, _⟩ := k3.four
  exact ⟨own_setCell (own_setCell (own_setCell (own_setCell (own_setCell (own_setCell (own_setCell T l2 _) l2 _) l2 _) l3 _) l3 _) l3 _) l3 _, a0, a1, a2, b0, b1, b2, b3⟩

set_option maxHeartbeats 1000000 in
theorem implRF_no (a b c : Int) (h : isQ a b c = false) (w : World) :
    Calls Tryd.prog 11 #[(.agg #[.int .i64 a, .int .i64 b, .int .i64 c])] w fun e w' => e = .returned (.tuple #[(.agg #[.int .i64 0, .int .i64 0, .int .i64 0]), (.agg #[.int .i64 0, .int .i64 0, .int .i64 0, .int .i64 0]), (.int .i64 1)]) ∧ Below w.heap.size w w' := by
  have H := Lib.hid h
  clear h
  go_enter Tryd.func11, Tryd.ntmps11
  go_wp2_with fail
  refine (implIsQ_is false _ _ _ H.out _).mono ?_
  rintro e w1 ⟨rfl, hb1⟩
  have Bw1_0 : Box w1 (w.heap.size) [.int .i64 a, .int .i64 b, .int .i64 c] := by refine Box.below ?_ hb1; repeat (first | with_reducible assumption | with_reducible exact Box.new _ _ _ | (with_reducible refine Box.newAt ?_ _ _; (simp; done)) | with_reducible apply Box.alloc | with_reducible apply Box.drewN | with_reducible apply Box.drew)
  obtain ⟨_, _, _, _, _, _, _⟩ := Bw1_0.three
  have Bw1_1 : Box w1 (w.heap.size + 1) [.int .i64 0, .int .i64 0, .int .i64 0] := by refine Box.below ?_ hb1; repeat (first | with_reducible assumption | with_reducible exact Box.new _ _ _ | (with_reducible refine Box.newAt ?_ _ _; (simp; done)) | with_reducible apply Box.alloc | with_reducible apply Box.drewN | with_reducible apply Box.drew)
  obtain ⟨_, _, _, _, _, _, _⟩ := Bw1_1.three
  have Bw1_2 : Box w1 (w.heap.size + 1 + 1) [.int .i64 0, .int .i64 0, .int .i64 0, .int .i64 0] := by refine Box.below ?_ hb1; repeat (first | with_reducible assumption | with_reducible exact Box.new _ _ _ | (with_reducible refine Box.newAt ?_ _ _; (simp; done)) | with_reducible apply Box.alloc | with_reducible apply Box.drewN | with_reducible apply Box.drew)
  obtain ⟨_, _, _, _, _, _, _, _, _⟩ := Bw1_2.four
  go_wp2
  have Z := two_res (show Below w.heap.size w w1 by repeat (first | with_reducible exact own_refl _ | with_reducible assumption | with_reducible apply own_alloc | with_reducible apply own_drewN | with_reducible apply own_drew | ((with_reducible refine own_setCell ?_ ?_ _); rotate_left; focus (first | (simp; done) | (simp; omega))) | (with_reducible (refine own_trans ?_ (by assumption))))) Bw1_1 Bw1_2 (by omega) (by omega) (by omega) (.int .i64 0) (.int .i64 0) (.int .i64 0) (.int .i64 0) (.int .i64 0) (.int .i64 0) (.int .i64 0)
  generalize World.setCell _ ⟨w.heap.size + 1 + 1, 3, none⟩ (.int .i64 0) = W at Z ⊢
  obtain ⟨T, q0, q1, q2, q3, q4, q5, q6⟩ := Z
  exact bodyPost_ret (v := .tuple #[(.agg #[.int .i64 0, .int .i64 0, .int .i64 0]), (.agg #[.int .i64 0, .int .i64 0, .int .i64 0, .int .i64 0]), (.int .i64 1)]) (by simp [results, Tryd.results11, go_sem, q0, q1, q2, q3, q4, q5, q6]) rfl ⟨rfl, T⟩
set_option maxHeartbeats 1000000 in
theorem implRF_state (a b c : Int) (h : isQ a b c = true) (h1 : (decide (disc a b c < 0) && decide (0 < a)) = false) (w : World) :
    Calls Tryd.prog 11 #[(.agg #[.int .i64 a, .int .i64 b, .int .i64 c])] w fun e w' => e = .returned (.tuple #[(.agg #[.int .i64 0, .int .i64 0, .int .i64 0]), (.agg #[.int .i64 0, .int .i64 0, .int .i64 0, .int .i64 0]), (.int .i64 5)]) ∧ Below w.heap.size w w' := by
  have H := Lib.hid h
  obtain ⟨ha, hb, hc, _⟩ := isQ_fe h
  have HD := Lib.hid (fun w => isDefinite_is false a b c h1 ha hb hc w)
  clear h h1 ha hb hc
  go_enter Tryd.func11, Tryd.ntmps11
  go_wp2_with fail
  refine (implIsQ_is true _ _ _ H.out _).mono ?_
  rintro e w1 ⟨rfl, hb1⟩
  have Bw1_0 : Box w1 (w.heap.size) [.int .i64 a, .int .i64 b, .int .i64 c] := by refine Box.below ?_ hb1; repeat (first | with_reducible assumption | with_reducible exact Box.new _ _ _ | (with_reducible refine Box.newAt ?_ _ _; (simp; done)) | with_reducible apply Box.alloc | with_reducible apply Box.drewN | with_reducible apply Box.drew)
  obtain ⟨_, _, _, _, _, _, _⟩ := Bw1_0.three
  have Bw1_1 : Box w1 (w.heap.size + 1) [.int .i64 0, .int .i64 0, .int .i64 0] := by refine Box.below ?_ hb1; repeat (first | with_reducible assumption | with_reducible exact Box.new _ _ _ | (with_reducible refine Box.newAt ?_ _ _; (simp; done)) | with_reducible apply Box.alloc | with_reducible apply Box.drewN | with_reducible apply Box.drew)
  obtain ⟨_, _, _, _, _, _, _⟩ := Bw1_1.three
  have Bw1_2 : Box w1 (w.heap.size + 1 + 1) [.int .i64 0, .int .i64 0, .int .i64 0, .int .i64 0] := by refine Box.below ?_ hb1; repeat (first | with_reducible assumption | with_reducible exact Box.new _ _ _ | (with_reducible refine Box.newAt ?_ _ _; (simp; done)) | with_reducible apply Box.alloc | with_reducible apply Box.drewN | with_reducible apply Box.drew)
  obtain ⟨_, _, _, _, _, _, _, _, _⟩ := Bw1_2.four
  go_wp2_with fail
  refine (HD.out _).mono ?_
  rintro e w2 ⟨rfl, hb2⟩
  have Bw2_0 : Box w2 (w.heap.size) [.int .i64 a, .int .i64 b, .int .i64 c] := by refine Box.below ?_ hb2; repeat (first | with_reducible assumption | with_reducible exact Box.new _ _ _ | (with_reducible refine Box.newAt ?_ _ _; (simp; done)) | with_reducible apply Box.alloc | with_reducible apply Box.drewN | with_reducible apply Box.drew)
  obtain ⟨_, _, _, _, _, _, _⟩ := Bw2_0.three
  have Bw2_1 : Box w2 (w.heap.size + 1) [.int .i64 0, .int .i64 0, .int .i64 0] := by refine Box.below ?_ hb2; repeat (first | with_reducible assumption | with_reducible exact Box.new _ _ _ | (with_reducible refine Box.newAt ?_ _ _; (simp; done)) | with_reducible apply Box.alloc | with_reducible apply Box.drewN | with_reducible apply Box.drew)
  obtain ⟨_, _, _, _, _, _, _⟩ := Bw2_1.three
  have Bw2_2 : Box w2 (w.heap.size + 1 + 1) [.int .i64 0, .int .i64 0, .int .i64 0, .int .i64 0] := by refine Box.below ?_ hb2; repeat (first | with_reducible assumption | with_reducible exact Box.new _ _ _ | (with_reducible refine Box.newAt ?_ _ _; (simp; done)) | with_reducible apply Box.alloc | with_reducible apply Box.drewN | with_reducible apply Box.drew)
  obtain ⟨_, _, _, _, _, _, _, _, _⟩ := Bw2_2.four
  go_wp2
  have Z := two_res (show Below w.heap.size w w2 by repeat (first | with_reducible exact own_refl _ | with_reducible assumption | with_reducible apply own_alloc | with_reducible apply own_drewN | with_reducible apply own_drew | ((with_reducible refine own_setCell ?_ ?_ _); rotate_left; focus (first | (simp; done) | (simp; omega))) | (with_reducible (refine own_trans ?_ (by assumption))))) Bw2_1 Bw2_2 (by omega) (by omega) (by omega) (.int .i64 0) (.int .i64 0) (.int .i64 0) (.int .i64 0) (.int .i64 0) (.int .i64 0) (.int .i64 0)
  generalize World.setCell _ ⟨w.heap.size + 1 + 1, 3, none⟩ (.int .i64 0) = W at Z ⊢
  obtain ⟨T, q0, q1, q2, q3, q4, q5, q6⟩ := Z
  exact bodyPost_ret (v := .tuple #[(.agg #[.int .i64 0, .int .i64 0, .int .i64 0]), (.agg #[.int .i64 0, .int .i64 0, .int .i64 0, .int .i64 0]), (.int .i64 5)]) (by simp [results, Tryd.results11, go_sem, q0, q1, q2, q3, q4, q5, q6]) rfl ⟨rfl, T⟩
set_option maxHeartbeats 4000000 in
theorem implRF_yes (a b c : Int) (y : RS3) (h : isQ a b c = true) (h1 : disc a b c < 0) (h2 : 0 < a) (hy : RS3.To (RS3.start a b c) y) (w : World) (hid : Idn w) (hmx : MxS w) :
    Calls Tryd.prog 11 #[(.agg #[.int .i64 a, .int .i64 b, .int .i64 c])] w fun e w' => e = .returned (.tuple #[(.agg #[.int .i64 y.a, .int .i64 y.b, .int .i64 y.c]), (.agg #[.int .i64 y.p, .int .i64 y.q, .int .i64 y.r, .int .i64 y.s]), (.int .i64 0)]) ∧ Below w.heap.size w w' := by
  have H := Lib.hid h
  obtain ⟨ha, hb, hc, _⟩ := isQ_fe h
  have HD := Lib.hid (fun w => isDefinite_is true a b c (by simp [h1, h2]) ha hb hc w)
  have HR := Lib.hid (fun w => reduceD_is a b c y ha hb hc h2 h1 hy w)
  clear h h1 h2 hy ha hb hc
  go_enter Tryd.func11, Tryd.ntmps11
  go_wp2_with fail
  refine (implIsQ_is true _ _ _ H.out _).mono ?_
  rintro e w1 ⟨rfl, hb1⟩
  have Bw1_0 : Box w1 (w.heap.size) [.int .i64 a, .int .i64 b, .int .i64 c] := by refine Box.below ?_ hb1; repeat (first | with_reducible assumption | with_reducible exact Box.new _ _ _ | (with_reducible refine Box.newAt ?_ _ _; (simp; done)) | with_reducible apply Box.alloc | with_reducible apply Box.drewN | with_reducible apply Box.drew)
  obtain ⟨_, _, _, _, _, _, _⟩ := Bw1_0.three
  have Bw1_1 : Box w1 (w.heap.size + 1) [.int .i64 0, .int .i64 0, .int .i64 0] := by refine Box.below ?_ hb1; repeat (first | with_reducible assumption | with_reducible exact Box.new _ _ _ | (with_reducible refine Box.newAt ?_ _ _; (simp; done)) | with_reducible apply Box.alloc | with_reducible apply Box.drewN | with_reducible apply Box.drew)
  obtain ⟨_, _, _, _, _, _, _⟩ := Bw1_1.three
  have Bw1_2 : Box w1 (w.heap.size + 1 + 1) [.int .i64 0, .int .i64 0, .int .i64 0, .int .i64 0] := by refine Box.below ?_ hb1; repeat (first | with_reducible assumption | with_reducible exact Box.new _ _ _ | (with_reducible refine Box.newAt ?_ _ _; (simp; done)) | with_reducible apply Box.alloc | with_reducible apply Box.drewN | with_reducible apply Box.drew)
  obtain ⟨_, _, _, _, _, _, _, _, _⟩ := Bw1_2.four
  go_wp2_with fail
  refine (HD.out _).mono ?_
  rintro e w2 ⟨rfl, hb2⟩
  have T2 : Below w.heap.size w w2 := by repeat (first | with_reducible exact own_refl _ | with_reducible assumption | with_reducible apply own_alloc | with_reducible apply own_drewN | with_reducible apply own_drew | ((with_reducible refine own_setCell ?_ ?_ _); rotate_left; focus (first | (simp; done) | (simp; omega))) | (with_reducible (refine own_trans ?_ (by assumption))))
  have Bw2_0 : Box w2 (w.heap.size) [.int .i64 a, .int .i64 b, .int .i64 c] := by refine Box.below ?_ hb2; repeat (first | with_reducible assumption | with_reducible exact Box.new _ _ _ | (with_reducible refine Box.newAt ?_ _ _; (simp; done)) | with_reducible apply Box.alloc | with_reducible apply Box.drewN | with_reducible apply Box.drew)
  obtain ⟨_, _, _, _, _, _, _⟩ := Bw2_0.three
  have Bw2_1 : Box w2 (w.heap.size + 1) [.int .i64 0, .int .i64 0, .int .i64 0] := by refine Box.below ?_ hb2; repeat (first | with_reducible assumption | with_reducible exact Box.new _ _ _ | (with_reducible refine Box.newAt ?_ _ _; (simp; done)) | with_reducible apply Box.alloc | with_reducible apply Box.drewN | with_reducible apply Box.drew)
  obtain ⟨_, _, _, _, _, _, _⟩ := Bw2_1.three
  have Bw2_2 : Box w2 (w.heap.size + 1 + 1) [.int .i64 0, .int .i64 0, .int .i64 0, .int .i64 0] := by refine Box.below ?_ hb2; repeat (first | with_reducible assumption | with_reducible exact Box.new _ _ _ | (with_reducible refine Box.newAt ?_ _ _; (simp; done)) | with_reducible apply Box.alloc | with_reducible apply Box.drewN | with_reducible apply Box.drew)
  obtain ⟨_, _, _, _, _, _, _, _, _⟩ := Bw2_2.four
  go_wp2_with fail
  refine (HR.out _ (Rd.below hid T2) (Rd.below hmx T2)).mono ?_
  rintro e w3 ⟨rfl, hb3⟩
  have T3 : Below w.heap.size w w3 := own_trans T2 hb3
  have B2 := Bw2_1.below hb3
  have B3 := Bw2_2.below hb3
  go_upto_region 6 with fail
  have B5 : Box ((w3.alloc (.cells #[.int .i64 y.a, .int .i64 y.b, .int .i64 y.c] 24)).alloc (.cells #[.int .i64 y.p, .int .i64 y.q, .int .i64 y.r, .int .i64 y.s] 27)) w3.heap.size [.int .i64 y.a, .int .i64 y.b, .int .i64 y.c] := Box.alloc (Box.new _ _ _) _
  have B6 : Box ((w3.alloc (.cells #[.int .i64 y.a, .int .i64 y.b, .int .i64 y.c] 24)).alloc (.cells #[.int .i64 y.p, .int .i64 y.q, .int .i64 y.r, .int .i64 y.s] 27)) (w3.heap.size + 1) [.int .i64 y.p, .int .i64 y.q, .int .i64 y.r, .int .i64 y.s] := Box.newAt (by simp) _ _
  have B2 := (B2.alloc (.cells #[.int .i64 y.a, .int .i64 y.b, .int .i64 y.c] 24)).alloc (.cells #[.int .i64 y.p, .int .i64 y.q, .int .i64 y.r, .int .i64 y.s] 27)
  have B3 := (B3.alloc (.cells #[.int .i64 y.a, .int .i64 y.b, .int .i64 y.c] 24)).alloc (.cells #[.int .i64 y.p, .int .i64 y.q, .int .i64 y.r, .int .i64 y.s] 27)
  have T := own_alloc (own_alloc T3 (.cells #[.int .i64 y.a, .int .i64 y.b, .int .i64 y.c] 24)) (.cells #[.int .i64 y.p, .int .i64 y.q, .int .i64 y.r, .int .i64 y.s] 27)
  have z3 := hb3.size
  have z2 := Bw2_2.1
  have d1 : ¬ (w3.heap.size = w.heap.size + 1) := by omega
  have d2 : ¬ (w3.heap.size = w.heap.size + 1 + 1) := by omega
  have d3 : ¬ (w3.heap.size + 1 = w.heap.size + 1) := by omega
  have d4 : ¬ (w3.heap.size + 1 = w.heap.size + 1 + 1) := by omega
  have d1' : ¬ (w.heap.size + 1 = w3.heap.size) := by omega
  have d2' : ¬ (w.heap.size + 1 + 1 = w3.heap.size) := by omega
  have d3' : ¬ (w.heap.size + 1 = w3.heap.size + 1) := by omega
  have d4' : ¬ (w.heap.size + 1 + 1 = w3.heap.size + 1) := by omega
  have d5 : ¬ (w3.heap.size = w.heap.size) := by omega
  have d5' : ¬ (w.heap.size = w3.heap.size) := by omega
  generalize World.alloc _ (.cells #[.int .i64 y.p, .int .i64 y.q, .int .i64 y.r, .int .i64 y.s] 27) = wz at T B2 B3 B5 B6 ⊢
  obtain ⟨_, _, _, _, _, _, _⟩ := B2.three
  obtain ⟨_, _, _, _, _, _, _, _, _⟩ := B3.four
  obtain ⟨_, _, _, _, _, _, _⟩ := B5.three
  obtain ⟨_, _, _, _, _, _, _, _, _⟩ := B6.four
  go_region_held3 (fun w' => w'.cell? ⟨w3.heap.size, 0, none⟩ = some (.int .i64 y.a) ∧ w'.cell? ⟨w3.heap.size, 1, none⟩ = some (.int .i64 y.b) ∧ w'.cell? ⟨w3.heap.size, 2, none⟩ = some (.int .i64 y.c) ∧
      w'.cell? ⟨w3.heap.size + 1, 0, none⟩ = some (.int .i64 y.p) ∧ w'.cell? ⟨w3.heap.size + 1, 1, none⟩ = some (.int .i64 y.q) ∧ w'.cell? ⟨w3.heap.size + 1, 2, none⟩ = some (.int .i64 y.r) ∧ w'.cell? ⟨w3.heap.size + 1, 3, none⟩ = some (.int .i64 y.s)) (go_keep)
    (fail)
  all_goals
    go_wp2
    have Z := two_res T B2 B3 (by omega) (by omega) (by omega) (.int .i64 y.a) (.int .i64 y.b) (.int .i64 y.c) (.int .i64 y.p) (.int .i64 y.q) (.int .i64 y.r) (.int .i64 y.s)
    generalize World.setCell _ ⟨w.heap.size + 1 + 1, 3, none⟩ (.int .i64 y.s) = W at Z ⊢
    obtain ⟨T, q0, q1, q2, q3, q4, q5, q6⟩ := Z
    have q0 : W.drew.cell? ⟨w.heap.size + 1, 0, none⟩ = _ := q0
    have q1 : W.drew.cell? ⟨w.heap.size + 1, 1, none⟩ = _ := q1
    have q2 : W.drew.cell? ⟨w.heap.size + 1, 2, none⟩ = _ := q2
    have q3 : W.drew.cell? ⟨w.heap.size + 1 + 1, 0, none⟩ = _ := q3
    have q4 : W.drew.cell? ⟨w.heap.size + 1 + 1, 1, none⟩ = _ := q4
    have q5 : W.drew.cell? ⟨w.heap.size + 1 + 1, 2, none⟩ = _ := q5
    have q6 : W.drew.cell? ⟨w.heap.size + 1 + 1, 3, none⟩ = _ := q6
    exact bodyPost_ret (v := .tuple #[(.agg #[.int .i64 y.a, .int .i64 y.b, .int .i64 y.c]), (.agg #[.int .i64 y.p, .int .i64 y.q, .int .i64 y.r, .int .i64 y.s]), (.int .i64 0)]) (by simp [results, Tryd.results11, go_sem, q0, q1, q2, q3, q4, q5, q6]) rfl ⟨rfl, by first | exact T | exact own_drew T⟩
set_option maxHeartbeats 1000000 in
theorem specRF_no (a b c : Int) (h : isQ a b c = false) (w : World) :
    Calls Tryd.prog 9 #[(.agg #[.int .i64 a, .int .i64 b, .int .i64 c])] w fun e w' => e = .returned (.tuple #[(.agg #[.int .i64 0, .int .i64 0, .int .i64 0]), (.agg #[.int .i64 0, .int .i64 0, .int .i64 0, .int .i64 0]), (.int .i64 1)]) ∧ Below w.heap.size w w' := by
  have H := Lib.hid h
  clear h
  go_enter Tryd.func9, Tryd.ntmps9
  go_wp2_with fail
  refine (l05Is_is false _ _ _ H.out _).mono ?_
  rintro e w1 ⟨rfl, hb1⟩
  have Bw1_0 : Box w1 (w.heap.size) [.int .i64 a, .int .i64 b, .int .i64 c] := by refine Box.below ?_ hb1; repeat (first | with_reducible assumption | with_reducible exact Box.new _ _ _ | (with_reducible refine Box.newAt ?_ _ _; (simp; done)) | with_reducible apply Box.alloc | with_reducible apply Box.drewN | with_reducible apply Box.drew)
  obtain ⟨_, _, _, _, _, _, _⟩ := Bw1_0.three
  have Bw1_1 : Box w1 (w.heap.size + 1) [.int .i64 0, .int .i64 0, .int .i64 0] := by refine Box.below ?_ hb1; repeat (first | with_reducible assumption | with_reducible exact Box.new _ _ _ | (with_reducible refine Box.newAt ?_ _ _; (simp; done)) | with_reducible apply Box.alloc | with_reducible apply Box.drewN | with_reducible apply Box.drew)
  obtain ⟨_, _, _, _, _, _, _⟩ := Bw1_1.three
  have Bw1_2 : Box w1 (w.heap.size + 1 + 1) [.int .i64 0, .int .i64 0, .int .i64 0, .int .i64 0] := by refine Box.below ?_ hb1; repeat (first | with_reducible assumption | with_reducible exact Box.new _ _ _ | (with_reducible refine Box.newAt ?_ _ _; (simp; done)) | with_reducible apply Box.alloc | with_reducible apply Box.drewN | with_reducible apply Box.drew)
  obtain ⟨_, _, _, _, _, _, _, _, _⟩ := Bw1_2.four
  go_wp2
  have Z := two_res (show Below w.heap.size w w1 by repeat (first | with_reducible exact own_refl _ | with_reducible assumption | with_reducible apply own_alloc | with_reducible apply own_drewN | with_reducible apply own_drew | ((with_reducible refine own_setCell ?_ ?_ _); rotate_left; focus (first | (simp; done) | (simp; omega))) | (with_reducible (refine own_trans ?_ (by assumption))))) Bw1_1 Bw1_2 (by omega) (by omega) (by omega) (.int .i64 0) (.int .i64 0) (.int .i64 0) (.int .i64 0) (.int .i64 0) (.int .i64 0) (.int .i64 0)
  generalize World.setCell _ ⟨w.heap.size + 1 + 1, 3, none⟩ (.int .i64 0) = W at Z ⊢
  obtain ⟨T, q0, q1, q2, q3, q4, q5, q6⟩ := Z
  exact bodyPost_ret (v := .tuple #[(.agg #[.int .i64 0, .int .i64 0, .int .i64 0]), (.agg #[.int .i64 0, .int .i64 0, .int .i64 0, .int .i64 0]), (.int .i64 1)]) (by simp [results, Tryd.results9, go_sem, q0, q1, q2, q3, q4, q5, q6]) rfl ⟨rfl, T⟩
set_option maxHeartbeats 1000000 in
theorem specRF_state (a b c : Int) (h : isQ a b c = true) (h1 : (decide (disc a b c < 0) && decide (0 < a)) = false) (w : World) :
    Calls Tryd.prog 9 #[(.agg #[.int .i64 a, .int .i64 b, .int .i64 c])] w fun e w' => e = .returned (.tuple #[(.agg #[.int .i64 0, .int .i64 0, .int .i64 0]), (.agg #[.int .i64 0, .int .i64 0, .int .i64 0, .int .i64 0]), (.int .i64 5)]) ∧ Below w.heap.size w w' := by
  have H := Lib.hid h
  obtain ⟨ha, hb, hc, _⟩ := isQ_fe h
  have HD := Lib.hid (fun w => l05Definite_is false a b c h1 ha hb hc w)
  clear h h1 ha hb hc
  go_enter Tryd.func9, Tryd.ntmps9
  go_wp2_with fail
  refine (l05Is_is true _ _ _ H.out _).mono ?_
  rintro e w1 ⟨rfl, hb1⟩
  have Bw1_0 : Box w1 (w.heap.size) [.int .i64 a, .int .i64 b, .int .i64 c] := by refine Box.below ?_ hb1; repeat (first | with_reducible assumption | with_reducible exact Box.new _ _ _ | (with_reducible refine Box.newAt ?_ _ _; (simp; done)) | with_reducible apply Box.alloc | with_reducible apply Box.drewN | with_reducible apply Box.drew)
  obtain ⟨_, _, _, _, _, _, _⟩ := Bw1_0.three
  have Bw1_1 : Box w1 (w.heap.size + 1) [.int .i64 0, .int .i64 0, .int .i64 0] := by refine Box.below ?_ hb1; repeat (first | with_reducible assumption | with_reducible exact Box.new _ _ _ | (with_reducible refine Box.newAt ?_ _ _; (simp; done)) | with_reducible apply Box.alloc | with_reducible apply Box.drewN | with_reducible apply Box.drew)
  obtain ⟨_, _, _, _, _, _, _⟩ := Bw1_1.three
  have Bw1_2 : Box w1 (w.heap.size + 1 + 1) [.int .i64 0, .int .i64 0, .int .i64 0, .int .i64 0] := by refine Box.below ?_ hb1; repeat (first | with_reducible assumption | with_reducible exact Box.new _ _ _ | (with_reducible refine Box.newAt ?_ _ _; (simp; done)) | with_reducible apply Box.alloc | with_reducible apply Box.drewN | with_reducible apply Box.drew)
  obtain ⟨_, _, _, _, _, _, _, _, _⟩ := Bw1_2.four
  go_wp2_with fail
  refine (HD.out _).mono ?_
  rintro e w2 ⟨rfl, hb2⟩
  have Bw2_0 : Box w2 (w.heap.size) [.int .i64 a, .int .i64 b, .int .i64 c] := by refine Box.below ?_ hb2; repeat (first | with_reducible assumption | with_reducible exact Box.new _ _ _ | (with_reducible refine Box.newAt ?_ _ _; (simp; done)) | with_reducible apply Box.alloc | with_reducible apply Box.drewN | with_reducible apply Box.drew)
  obtain ⟨_, _, _, _, _, _, _⟩ := Bw2_0.three
  have Bw2_1 : Box w2 (w.heap.size + 1) [.int .i64 0, .int .i64 0, .int .i64 0] := by refine Box.below ?_ hb2; repeat (first | with_reducible assumption | with_reducible exact Box.new _ _ _ | (with_reducible refine Box.newAt ?_ _ _; (simp; done)) | with_reducible apply Box.alloc | with_reducible apply Box.drewN | with_reducible apply Box.drew)
  obtain ⟨_, _, _, _, _, _, _⟩ := Bw2_1.three
  have Bw2_2 : Box w2 (w.heap.size + 1 + 1) [.int .i64 0, .int .i64 0, .int .i64 0, .int .i64 0] := by refine Box.below ?_ hb2; repeat (first | with_reducible assumption | with_reducible exact Box.new _ _ _ | (with_reducible refine Box.newAt ?_ _ _; (simp; done)) | with_reducible apply Box.alloc | with_reducible apply Box.drewN | with_reducible apply Box.drew)
  obtain ⟨_, _, _, _, _, _, _, _, _⟩ := Bw2_2.four
  go_wp2
  have Z := two_res (show Below w.heap.size w w2 by repeat (first | with_reducible exact own_refl _ | with_reducible assumption | with_reducible apply own_alloc | with_reducible apply own_drewN | with_reducible apply own_drew | ((with_reducible refine own_setCell ?_ ?_ _); rotate_left; focus (first | (simp; done) | (simp; omega))) | (with_reducible (refine own_trans ?_ (by assumption))))) Bw2_1 Bw2_2 (by omega) (by omega) (by omega) (.int .i64 0) (.int .i64 0) (.int .i64 0) (.int .i64 0) (.int .i64 0) (.int .i64 0) (.int .i64 0)
  generalize World.setCell _ ⟨w.heap.size + 1 + 1, 3, none⟩ (.int .i64 0) = W at Z ⊢
  obtain ⟨T, q0, q1, q2, q3, q4, q5, q6⟩ := Z
  exact bodyPost_ret (v := .tuple #[(.agg #[.int .i64 0, .int .i64 0, .int .i64 0]), (.agg #[.int .i64 0, .int .i64 0, .int .i64 0, .int .i64 0]), (.int .i64 5)]) (by simp [results, Tryd.results9, go_sem, q0, q1, q2, q3, q4, q5, q6]) rfl ⟨rfl, T⟩
set_option maxHeartbeats 4000000 in
theorem specRF_yes (a b c : Int) (y : RS3) (h : isQ a b c = true) (h1 : disc a b c < 0) (h2 : 0 < a) (hy : RS3.To (RS3.start a b c) y) (hq : isQ y.a y.b y.c = true) (w : World) :
    Calls Tryd.prog 9 #[(.agg #[.int .i64 a, .int .i64 b, .int .i64 c])] w fun e w' => e = .returned (.tuple #[(.agg #[.int .i64 y.a, .int .i64 y.b, .int .i64 y.c]), (.agg #[.int .i64 y.p, .int .i64 y.q, .int .i64 y.r, .int .i64 y.s]), (.int .i64 0)]) ∧ Below w.heap.size w w' := by
  have H := Lib.hid h
  obtain ⟨ha, hb, hc, _⟩ := isQ_fe h
  have HD := Lib.hid (fun w => l05Definite_is true a b c (by simp [h1, h2]) ha hb hc w)
  have HR := Lib.hid (fun w => l05Down_is a b c y ha hb hc h2 h1 hy w)
  have HQ := Lib.hid hq
  clear h h1 h2 hy ha hb hc hq
  go_enter Tryd.func9, Tryd.ntmps9
  go_wp2_with fail
  refine (l05Is_is true _ _ _ H.out _).mono ?_
  rintro e w1 ⟨rfl, hb1⟩
  have Bw1_0 : Box w1 (w.heap.size) [.int .i64 a, .int .i64 b, .int .i64 c] := by refine Box.below ?_ hb1; repeat (first | with_reducible assumption | with_reducible exact Box.new _ _ _ | (with_reducible refine Box.newAt ?_ _ _; (simp; done)) | with_reducible apply Box.alloc | with_reducible apply Box.drewN | with_reducible apply Box.drew)
  obtain ⟨_, _, _, _, _, _, _⟩ := Bw1_0.three
  have Bw1_1 : Box w1 (w.heap.size + 1) [.int .i64 0, .int .i64 0, .int .i64 0] := by refine Box.below ?_ hb1; repeat (first | with_reducible assumption | with_reducible exact Box.new _ _ _ | (with_reducible refine Box.newAt ?_ _ _; (simp; done)) | with_reducible apply Box.alloc | with_reducible apply Box.drewN | with_reducible apply Box.drew)
  obtain ⟨_, _, _, _, _, _, _⟩ := Bw1_1.three
  have Bw1_2 : Box w1 (w.heap.size + 1 + 1) [.int .i64 0, .int .i64 0, .int .i64 0, .int .i64 0] := by refine Box.below ?_ hb1; repeat (first | with_reducible assumption | with_reducible exact Box.new _ _ _ | (with_reducible refine Box.newAt ?_ _ _; (simp; done)) | with_reducible apply Box.alloc | with_reducible apply Box.drewN | with_reducible apply Box.drew)
  obtain ⟨_, _, _, _, _, _, _, _, _⟩ := Bw1_2.four
  go_wp2_with fail
  refine (HD.out _).mono ?_
  rintro e w2 ⟨rfl, hb2⟩
  have T2 : Below w.heap.size w w2 := by repeat (first | with_reducible exact own_refl _ | with_reducible assumption | with_reducible apply own_alloc | with_reducible apply own_drewN | with_reducible apply own_drew | ((with_reducible refine own_setCell ?_ ?_ _); rotate_left; focus (first | (simp; done) | (simp; omega))) | (with_reducible (refine own_trans ?_ (by assumption))))
  have Bw2_0 : Box w2 (w.heap.size) [.int .i64 a, .int .i64 b, .int .i64 c] := by refine Box.below ?_ hb2; repeat (first | with_reducible assumption | with_reducible exact Box.new _ _ _ | (with_reducible refine Box.newAt ?_ _ _; (simp; done)) | with_reducible apply Box.alloc | with_reducible apply Box.drewN | with_reducible apply Box.drew)
  obtain ⟨_, _, _, _, _, _, _⟩ := Bw2_0.three
  have Bw2_1 : Box w2 (w.heap.size + 1) [.int .i64 0, .int .i64 0, .int .i64 0] := by refine Box.below ?_ hb2; repeat (first | with_reducible assumption | with_reducible exact Box.new _ _ _ | (with_reducible refine Box.newAt ?_ _ _; (simp; done)) | with_reducible apply Box.alloc | with_reducible apply Box.drewN | with_reducible apply Box.drew)
  obtain ⟨_, _, _, _, _, _, _⟩ := Bw2_1.three
  have Bw2_2 : Box w2 (w.heap.size + 1 + 1) [.int .i64 0, .int .i64 0, .int .i64 0, .int .i64 0] := by refine Box.below ?_ hb2; repeat (first | with_reducible assumption | with_reducible exact Box.new _ _ _ | (with_reducible refine Box.newAt ?_ _ _; (simp; done)) | with_reducible apply Box.alloc | with_reducible apply Box.drewN | with_reducible apply Box.drew)
  obtain ⟨_, _, _, _, _, _, _, _, _⟩ := Bw2_2.four
  go_wp2_with fail
  refine (HR.out _).mono ?_
  rintro e w3 ⟨rfl, hb3⟩
  have T3 : Below w.heap.size w w3 := own_trans T2 hb3
  have B2 := Bw2_1.below hb3
  have B3 := Bw2_2.below hb3
  go_wp2_with fail
  refine (l05Is_is true _ _ _ HQ.out _).mono ?_
  rintro e w4 ⟨rfl, hb4⟩
  have T := own_trans (own_alloc (own_alloc T3 _) _) hb4
  have B2 := ((B2.alloc _).alloc _).below hb4
  have B3 := ((B3.alloc _).alloc _).below hb4
  have B5 := Box.below (Box.alloc (Box.new _ _ _) _) hb4
  have B6 := Box.below (Box.newAt (by simp) _ _ : Box _ (w3.heap.size + 1) _) hb4
  go_upto_region 8 with fail
  have z3 := hb3.size
  have z2 := Bw2_2.1
  have d1 : ¬ (w3.heap.size = w.heap.size + 1) := by omega
  have d2 : ¬ (w3.heap.size = w.heap.size + 1 + 1) := by omega
  have d3 : ¬ (w3.heap.size + 1 = w.heap.size + 1) := by omega
  have d4 : ¬ (w3.heap.size + 1 = w.heap.size + 1 + 1) := by omega
  have d1' : ¬ (w.heap.size + 1 = w3.heap.size) := by omega
  have d2' : ¬ (w.heap.size + 1 + 1 = w3.heap.size) := by omega
  have d3' : ¬ (w.heap.size + 1 = w3.heap.size + 1) := by omega
  have d4' : ¬ (w.heap.size + 1 + 1 = w3.heap.size + 1) := by omega
  have d5 : ¬ (w3.heap.size = w.heap.size) := by omega
  have d5' : ¬ (w.heap.size = w3.heap.size) := by omega
  generalize w4 = wz at T B2 B3 B5 B6 ⊢
  obtain ⟨_, _, _, _, _, _, _⟩ := B2.three
  obtain ⟨_, _, _, _, _, _, _, _, _⟩ := B3.four
  obtain ⟨_, _, _, _, _, _, _⟩ := B5.three
  obtain ⟨_, _, _, _, _, _, _, _, _⟩ := B6.four
  go_region_held3 (fun w' => w'.cell? ⟨w3.heap.size, 0, none⟩ = some (.int .i64 y.a) ∧ w'.cell? ⟨w3.heap.size, 1, none⟩ = some (.int .i64 y.b) ∧ w'.cell? ⟨w3.heap.size, 2, none⟩ = some (.int .i64 y.c) ∧
      w'.cell? ⟨w3.heap.size + 1, 0, none⟩ = some (.int .i64 y.p) ∧ w'.cell? ⟨w3.heap.size + 1, 1, none⟩ = some (.int .i64 y.q) ∧ w'.cell? ⟨w3.heap.size + 1, 2, none⟩ = some (.int .i64 y.r) ∧ w'.cell? ⟨w3.heap.size + 1, 3, none⟩ = some (.int .i64 y.s)) (go_keep)
    (fail)
  all_goals
    go_wp2
    have Z := two_res T B2 B3 (by omega) (by omega) (by omega) (.int .i64 y.a) (.int .i64 y.b) (.int .i64 y.c) (.int .i64 y.p) (.int .i64 y.q) (.int .i64 y.r) (.int .i64 y.s)
    generalize World.setCell _ ⟨w.heap.size + 1 + 1, 3, none⟩ (.int .i64 y.s) = W at Z ⊢
    obtain ⟨T, q0, q1, q2, q3, q4, q5, q6⟩ := Z
    have q0 : W.drew.cell? ⟨w.heap.size + 1, 0, none⟩ = _ := q0
    have q1 : W.drew.cell? ⟨w.heap.size + 1, 1, none⟩ = _ := q1
    have q2 : W.drew.cell? ⟨w.heap.size + 1, 2, none⟩ = _ := q2
    have q3 : W.drew.cell? ⟨w.heap.size + 1 + 1, 0, none⟩ = _ := q3
    have q4 : W.drew.cell? ⟨w.heap.size + 1 + 1, 1, none⟩ = _ := q4
    have q5 : W.drew.cell? ⟨w.heap.size + 1 + 1, 2, none⟩ = _ := q5
    have q6 : W.drew.cell? ⟨w.heap.size + 1 + 1, 3, none⟩ = _ := q6
    exact bodyPost_ret (v := .tuple #[(.agg #[.int .i64 y.a, .int .i64 y.b, .int .i64 y.c]), (.agg #[.int .i64 y.p, .int .i64 y.q, .int .i64 y.r, .int .i64 y.s]), (.int .i64 0)]) (by simp [results, Tryd.results9, go_sem, q0, q1, q2, q3, q4, q5, q6]) rfl ⟨rfl, by first | exact T | exact own_drew T⟩
theorem lawReduceForm_walk (a b c : Int) (_ : I64 a) (_ : I64 b) (_ : I64 c) (w : World) (hid : Idn w) (hmx : MxS w) :
    Calls Tryd.prog 4 #[(.agg #[.int .i64 a, .int .i64 b, .int .i64 c])] w fun e w' => e = .returned (.bool true) ∧ Below w.heap.size w w' := by
  rcases h : isQ a b c with _ | _
  · exact lawReduceForm_of a b c 0 0 0 0 0 0 0 1 (fun w => specRF_no a b c h w) (fun w _ _ => implRF_no a b c h w) w hid hmx
  rcases h1 : (decide (disc a b c < 0) && decide (0 < a)) with _ | _
  · exact lawReduceForm_of a b c 0 0 0 0 0 0 0 5 (fun w => specRF_state a b c h h1 w) (fun w _ _ => implRF_state a b c h h1 w) w hid hmx
  have h2 : disc a b c < 0 ∧ 0 < a := by simpa using h1
  obtain ⟨ha, hb, hc, _⟩ := isQ_fe h
  obtain ⟨y, hy, hi⟩ := RS3.to_ex _ _ (Nat.le_refl _) (RS3.start_inv ha hb hc h2.2 h2.1)
  have hq : isQ y.a y.b y.c = true := decide_eq_true ⟨hi.fa, hi.fb, hi.fc, fun k => by have := hi.pos; omega⟩
  exact lawReduceForm_of a b c _ _ _ _ _ _ _ 0 (fun w => specRF_yes a b c y h h2.1 h2.2 hy hq w) (fun w hi hm => implRF_yes a b c y h h2.1 h2.2 hy w hi hm) w hid hmx
end Go.Proofs.YtfpgdbdgglbleaaDoor
