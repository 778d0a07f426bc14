/- CommutatorTrace: contracts of both sides. -/
import Derived.Test.YtkeadknbdihkmaaTrO
import Derived.Test.YtkeadknbdihkmaaMul
namespace Go.Proofs.Ytkeadknbdihkmaa
open Go.ChangeShapes Go.WideShapes Go.ChangeAt Go.RowKit

/-- What CommutatorTrace returns. -/
def RetC (v k : Int) (w : World) (e : Ending) (w' : World) : Prop := e = .returned (.tuple #[(.int .i64 v), (.int .i64 k)]) ∧ Below w.heap.size w w'
def Sm (x : Int) : Prop := -1000 ≤ x ∧ x ≤ 1000
theorem sm_iff {x : Int} : inW x 1000 = true ↔ Sm x := by simp [inW, Sm]
theorem Sm.ent {x : Int} (h : Sm x) : Ent x := by obtain ⟨_, _⟩ := h; constructor <;> omega
theorem allW4s (a b c d : Int) : allW [a, b, c, d] 1000 = true ↔ Sm a ∧ Sm b ∧ Sm c ∧ Sm d := by simp [allW, sm_iff]
theorem allW4s_is (r : Bool) (a b c d : Int) (g : Nat) (w : World) (hr : allW [a, b, c, d] 1000 = r)
    (h0 : w.cell? ⟨g, 0, none⟩ = some (.int .i64 a)) (h1 : w.cell? ⟨g, 1, none⟩ = some (.int .i64 b)) (h2 : w.cell? ⟨g, 2, none⟩ = some (.int .i64 c)) (h3 : w.cell? ⟨g, 3, none⟩ = some (.int .i64 d)) :
    Calls Try.prog 29 #[.slice (some ⟨g, 0, none⟩) 4 4, .int .i64 1000] w fun e w' => e = .returned (.bool r) ∧ w = w' := by
  subst hr
  refine allWithin_any [a, b, c, d] 1000 (by omega) (by omega) g 0 4 (by simp) w ?_
  intro k hk
  have : k = 0 ∨ k = 1 ∨ k = 2 ∨ k = 3 := by simp at hk; omega
  rcases this with rfl | rfl | rfl | rfl <;> simpa
theorem ctr_bd {a b c d p q r s t u v : Int} (ha : Sm a) (hb : Sm b) (hc : Sm c) (hd : Sm d) (hp : Sm p) (hq : Sm q) (hr : Sm r) (hs : Sm s)
    (ht : a + d = t) (hu : p + s = u) (hv : a * p + b * r + (c * q + d * s) = v) :
    Ent (a * p + b * r) ∧ Ent (a * q + b * s) ∧ Ent (c * p + d * r) ∧ Ent (c * q + d * s) ∧ (-4000000 ≤ t * t ∧ t * t ≤ 4000000) ∧ (-4000000 ≤ u * u ∧ u * u ≤ 4000000) ∧ (-16000000000000 ≤ v * v ∧ v * v ≤ 16000000000000) ∧ (-4000000 ≤ t * u ∧ t * u ≤ 4000000) ∧ (-16000000000000 ≤ t * u * v ∧ t * u * v ≤ 16000000000000) := by
  have e1 := mul_bd ha hp
  have e2 := mul_bd hb hr
  have e3 := mul_bd ha hq
  have e4 := mul_bd hb hs
  have e5 := mul_bd hc hp
  have e6 := mul_bd hd hr
  have e7 := mul_bd hc hq
  have e8 := mul_bd hd hs
  have bt : -2000 ≤ t ∧ t ≤ 2000 := by unfold Sm at *; omega
  have bu : -2000 ≤ u ∧ u ≤ 2000 := by unfold Sm at *; omega
  have bv : -4000000 ≤ v ∧ v ≤ 4000000 := by omega
  have f1 := mul_bd bt bt
  have f2 := mul_bd bu bu
  have f3 := mul_bd bv bv
  have f4 := mul_bd bt bu
  have f5 := mul_bd (a := t * u) (A := 4000000) (by omega) bv
  refine ⟨?_, ?_, ?_, ?_, by omega, by omega, by omega, by omega, by omega⟩
  all_goals unfold Ent; omega

set_option maxHeartbeats 1000000 in
theorem implCtr_inv1 (a b c d p q r s : Int) (h : isM a b c d = false) (w : World) : Calls Try.prog 15 #[(.agg #[.int .i64 a, .int .i64 b, .int .i64 c, .int .i64 d]), (.agg #[.int .i64 p, .int .i64 q, .int .i64 r, .int .i64 s])] w (RetC 0 1 w) := by
  have H := Lib.hid h
  clear h
  go_enter Try.func15, Try.ntmps15
  go_wp2_with fail
  refine (implIs_is false _ _ _ _ _ H.out).mono ?_
  rintro e w1 ⟨rfl, hb1⟩
  go_wp2
  go_ret2
  exact ⟨rfl, by repeat (first | with_reducible exact own_refl _ | with_reducible assumption | with_reducible apply own_alloc | with_reducible apply own_drewN | with_reducible apply own_drew | ((with_reducible refine own_setCell ?_ ?_ _); rotate_left; focus (first | (simp; done) | (simp; omega))) | (with_reducible (refine own_trans ?_ (by assumption))))⟩
set_option maxHeartbeats 1000000 in
theorem implCtr_inv2 (a b c d p q r s : Int) (h : isM a b c d = true) (h2 : isM p q r s = false) (w : World) : Calls Try.prog 15 #[(.agg #[.int .i64 a, .int .i64 b, .int .i64 c, .int .i64 d]), (.agg #[.int .i64 p, .int .i64 q, .int .i64 r, .int .i64 s])] w (RetC 0 1 w) := by
  have H := Lib.hid h
  have H2 := Lib.hid h2
  clear h h2
  go_enter Try.func15, Try.ntmps15
  go_wp2_with fail
  refine (implIs_is true _ _ _ _ _ H.out).mono ?_
  rintro e w1 ⟨rfl, hb1⟩
  have Bw1_0 : Box w1 (w.heap.size) [.int .i64 a, .int .i64 b, .int .i64 c, .int .i64 d] := by refine Box.below ?_ hb1; repeat (first | with_reducible assumption | with_reducible exact Box.new _ _ _ | (with_reducible refine Box.newAt ?_ _ _; (simp; done)) | with_reducible apply Box.alloc | with_reducible apply Box.drewN | with_reducible apply Box.drew)
  obtain ⟨_, _, _, _, _, _, _, _, _⟩ := Bw1_0.four
  have Bw1_1 : Box w1 (w.heap.size + 1) [.int .i64 p, .int .i64 q, .int .i64 r, .int .i64 s] := by refine Box.below ?_ hb1; repeat (first | with_reducible assumption | with_reducible exact Box.new _ _ _ | (with_reducible refine Box.newAt ?_ _ _; (simp; done)) | with_reducible apply Box.alloc | with_reducible apply Box.drewN | with_reducible apply Box.drew)
  obtain ⟨_, _, _, _, _, _, _, _, _⟩ := Bw1_1.four
  go_wp2_with fail
  refine (implIs_is false _ _ _ _ _ H2.out).mono ?_
  rintro e w2 ⟨rfl, hb2⟩
  go_wp2
  go_ret2
  exact ⟨rfl, by repeat (first | with_reducible exact own_refl _ | with_reducible assumption | with_reducible apply own_alloc | with_reducible apply own_drewN | with_reducible apply own_drew | ((with_reducible refine own_setCell ?_ ?_ _); rotate_left; focus (first | (simp; done) | (simp; omega))) | (with_reducible (refine own_trans ?_ (by assumption))))⟩
set_option maxHeartbeats 1000000 in
theorem implCtr_big1 (a b c d p q r s : Int) (h : isM a b c d = true) (h2 : isM p q r s = true) (h3 : allW [a, b, c, d] 1000 = false) (w : World) : Calls Try.prog 15 #[(.agg #[.int .i64 a, .int .i64 b, .int .i64 c, .int .i64 d]), (.agg #[.int .i64 p, .int .i64 q, .int .i64 r, .int .i64 s])] w (RetC 0 2 w) := by
  have H := Lib.hid h
  have H2 := Lib.hid h2
  have H3 := Lib.hid h3
  clear h h2 h3
  go_enter Try.func15, Try.ntmps15
  go_wp2_with fail
  refine (implIs_is true _ _ _ _ _ H.out).mono ?_
  rintro e w1 ⟨rfl, hb1⟩
  have Bw1_0 : Box w1 (w.heap.size) [.int .i64 a, .int .i64 b, .int .i64 c, .int .i64 d] := by refine Box.below ?_ hb1; repeat (first | with_reducible assumption | with_reducible exact Box.new _ _ _ | (with_reducible refine Box.newAt ?_ _ _; (simp; done)) | with_reducible apply Box.alloc | with_reducible apply Box.drewN | with_reducible apply Box.drew)
  obtain ⟨_, _, _, _, _, _, _, _, _⟩ := Bw1_0.four
  have Bw1_1 : Box w1 (w.heap.size + 1) [.int .i64 p, .int .i64 q, .int .i64 r, .int .i64 s] := by refine Box.below ?_ hb1; repeat (first | with_reducible assumption | with_reducible exact Box.new _ _ _ | (with_reducible refine Box.newAt ?_ _ _; (simp; done)) | with_reducible apply Box.alloc | with_reducible apply Box.drewN | with_reducible apply Box.drew)
  obtain ⟨_, _, _, _, _, _, _, _, _⟩ := Bw1_1.four
  go_wp2_with fail
  refine (implIs_is true _ _ _ _ _ H2.out).mono ?_
  rintro e w2 ⟨rfl, hb2⟩
  have Bw2_0 : Box w2 (w.heap.size) [.int .i64 a, .int .i64 b, .int .i64 c, .int .i64 d] := by refine Box.below ?_ hb2; repeat (first | with_reducible assumption | with_reducible exact Box.new _ _ _ | (with_reducible refine Box.newAt ?_ _ _; (simp; done)) | with_reducible apply Box.alloc | with_reducible apply Box.drewN | with_reducible apply Box.drew)
  obtain ⟨_, _, _, _, _, _, _, _, _⟩ := Bw2_0.four
  have Bw2_1 : Box w2 (w.heap.size + 1) [.int .i64 p, .int .i64 q, .int .i64 r, .int .i64 s] := by refine Box.below ?_ hb2; repeat (first | with_reducible assumption | with_reducible exact Box.new _ _ _ | (with_reducible refine Box.newAt ?_ _ _; (simp; done)) | with_reducible apply Box.alloc | with_reducible apply Box.drewN | with_reducible apply Box.drew)
  obtain ⟨_, _, _, _, _, _, _, _, _⟩ := Bw2_1.four
  go_wp2_with fail
  refine (allW4s_is false _ _ _ _ _ _ H3.out (by assumption) (by assumption) (by assumption) (by assumption)).mono ?_
  rintro e w3 ⟨rfl, rfl⟩
  go_wp2
  go_ret2
  exact ⟨rfl, by repeat (first | with_reducible exact own_refl _ | with_reducible assumption | with_reducible apply own_alloc | with_reducible apply own_drewN | with_reducible apply own_drew | ((with_reducible refine own_setCell ?_ ?_ _); rotate_left; focus (first | (simp; done) | (simp; omega))) | (with_reducible (refine own_trans ?_ (by assumption))))⟩
set_option maxHeartbeats 1000000 in
theorem implCtr_big2 (a b c d p q r s : Int) (h : isM a b c d = true) (h2 : isM p q r s = true) (h3 : allW [a, b, c, d] 1000 = true) (h4 : allW [p, q, r, s] 1000 = false) (w : World) : Calls Try.prog 15 #[(.agg #[.int .i64 a, .int .i64 b, .int .i64 c, .int .i64 d]), (.agg #[.int .i64 p, .int .i64 q, .int .i64 r, .int .i64 s])] w (RetC 0 2 w) := by
  have H := Lib.hid h
  have H2 := Lib.hid h2
  have H3 := Lib.hid h3
  have H4 := Lib.hid h4
  clear h h2 h3 h4
  go_enter Try.func15, Try.ntmps15
  go_wp2_with fail
  refine (implIs_is true _ _ _ _ _ H.out).mono ?_
  rintro e w1 ⟨rfl, hb1⟩
  have Bw1_0 : Box w1 (w.heap.size) [.int .i64 a, .int .i64 b, .int .i64 c, .int .i64 d] := by refine Box.below ?_ hb1; repeat (first | with_reducible assumption | with_reducible exact Box.new _ _ _ | (with_reducible refine Box.newAt ?_ _ _; (simp; done)) | with_reducible apply Box.alloc | with_reducible apply Box.drewN | with_reducible apply Box.drew)
  obtain ⟨_, _, _, _, _, _, _, _, _⟩ := Bw1_0.four
  have Bw1_1 : Box w1 (w.heap.size + 1) [.int .i64 p, .int .i64 q, .int .i64 r, .int .i64 s] := by refine Box.below ?_ hb1; repeat (first | with_reducible assumption | with_reducible exact Box.new _ _ _ | (with_reducible refine Box.newAt ?_ _ _; (simp; done)) | with_reducible apply Box.alloc | with_reducible apply Box.drewN | with_reducible apply Box.drew)
  obtain ⟨_, _, _, _, _, _, _, _, _⟩ := Bw1_1.four
  go_wp2_with fail
  refine (implIs_is true _ _ _ _ _ H2.out).mono ?_
  rintro e w2 ⟨rfl, hb2⟩
  have Bw2_0 : Box w2 (w.heap.size) [.int .i64 a, .int .i64 b, .int .i64 c, .int .i64 d] := by refine Box.below ?_ hb2; repeat (first | with_reducible assumption | with_reducible exact Box.new _ _ _ | (with_reducible refine Box.newAt ?_ _ _; (simp; done)) | with_reducible apply Box.alloc | with_reducible apply Box.drewN | with_reducible apply Box.drew)
  obtain ⟨_, _, _, _, _, _, _, _, _⟩ := Bw2_0.four
  have Bw2_1 : Box w2 (w.heap.size + 1) [.int .i64 p, .int .i64 q, .int .i64 r, .int .i64 s] := by refine Box.below ?_ hb2; repeat (first | with_reducible assumption | with_reducible exact Box.new _ _ _ | (with_reducible refine Box.newAt ?_ _ _; (simp; done)) | with_reducible apply Box.alloc | with_reducible apply Box.drewN | with_reducible apply Box.drew)
  obtain ⟨_, _, _, _, _, _, _, _, _⟩ := Bw2_1.four
  go_wp2_with fail
  refine (allW4s_is true _ _ _ _ _ _ H3.out (by assumption) (by assumption) (by assumption) (by assumption)).mono ?_
  rintro e w3 ⟨rfl, rfl⟩
  go_wp2_with fail
  refine (allW4s_is false _ _ _ _ _ _ H4.out (by assumption) (by assumption) (by assumption) (by assumption)).mono ?_
  rintro e w3 ⟨rfl, rfl⟩
  go_wp2
  go_ret2
  exact ⟨rfl, by repeat (first | with_reducible exact own_refl _ | with_reducible assumption | with_reducible apply own_alloc | with_reducible apply own_drewN | with_reducible apply own_drew | ((with_reducible refine own_setCell ?_ ?_ _); rotate_left; focus (first | (simp; done) | (simp; omega))) | (with_reducible (refine own_trans ?_ (by assumption))))⟩
set_option maxHeartbeats 8000000 in
theorem implCtr_yes (a b c d p q r s t u v : Int) (h : isM a b c d = true) (h2 : isM p q r s = true) (h3 : allW [a, b, c, d] 1000 = true) (h4 : allW [p, q, r, s] 1000 = true)
    (ht : a + d = t) (hu : p + s = u) (hv : a * p + b * r + (c * q + d * s) = v) (w : World) : Calls Try.prog 15 #[(.agg #[.int .i64 a, .int .i64 b, .int .i64 c, .int .i64 d]), (.agg #[.int .i64 p, .int .i64 q, .int .i64 r, .int .i64 s])] w (RetC (t * t + u * u + v * v - t * u * v - 2) 0 w) := by
  have H := Lib.hid h
  have H2 := Lib.hid h2
  have H3 := Lib.hid h3
  have H4 := Lib.hid h4
  obtain ⟨sa, sb, sc, sd⟩ := (allW4s _ _ _ _).1 h3
  obtain ⟨sp, sq, sr, ss⟩ := (allW4s _ _ _ _).1 h4
  obtain ⟨n1, n2, n3, n4, ⟨k1, k2⟩, ⟨k3, k4⟩, ⟨k5, k6⟩, ⟨k7, k8⟩, ⟨k9, k10⟩⟩ := ctr_bd sa sb sc sd sp sq sr ss ht hu hv
  have TA : Hid (∀ w : World, Calls Try.prog 30 #[(.agg #[.int .i64 a, .int .i64 b, .int .i64 c, .int .i64 d])] w fun e w' => e = .returned (.int .i64 t) ∧ Below w.heap.size w w') := Lib.hid fun w => ht ▸ traceOf_any a b c d sa.ent sd.ent w
  have TB : Hid (∀ w : World, Calls Try.prog 30 #[(.agg #[.int .i64 p, .int .i64 q, .int .i64 r, .int .i64 s])] w fun e w' => e = .returned (.int .i64 u) ∧ Below w.heap.size w w') := Lib.hid fun w => hu ▸ traceOf_any p q r s sp.ent ss.ent w
  have TC : Hid (∀ w : World, Calls Try.prog 30 #[(.agg #[.int .i64 (a * p + b * r), .int .i64 (a * q + b * s), .int .i64 (c * p + d * r), .int .i64 (c * q + d * s)])] w fun e w' => e = .returned (.int .i64 v) ∧ Below w.heap.size w w') := Lib.hid fun w => hv ▸ traceOf_any _ _ _ _ n1 n4 w
  have TM : Hid (∀ w : World, Calls Try.prog 31 #[(.agg #[.int .i64 a, .int .i64 b, .int .i64 c, .int .i64 d]), (.agg #[.int .i64 p, .int .i64 q, .int .i64 r, .int .i64 s])] w fun e w' => e = .returned (.agg #[.int .i64 (a * p + b * r), .int .i64 (a * q + b * s), .int .i64 (c * p + d * r), .int .i64 (c * q + d * s)]) ∧ Below w.heap.size w w') := Lib.hid fun w => multiply_ent a b c d p q r s sa.ent sb.ent sc.ent sd.ent sp.ent sq.ent sr.ent ss.ent w
  have g1 : IntKind.i64.wrap (t * t) = t * t := IntWalk.i64_in _ (by omega)
  have g2 : IntKind.i64.wrap (u * u) = u * u := IntWalk.i64_in _ (by omega)
  have g3 : IntKind.i64.wrap (v * v) = v * v := IntWalk.i64_in _ (by omega)
  have g4 : IntKind.i64.wrap (t * t + u * u) = t * t + u * u := IntWalk.i64_in _ (by omega)
  have g5 : IntKind.i64.wrap (t * t + u * u + v * v) = t * t + u * u + v * v := IntWalk.i64_in _ (by omega)
  have g6 : IntKind.i64.wrap (t * u) = t * u := IntWalk.i64_in _ (by omega)
  have g7 : IntKind.i64.wrap (t * u * v) = t * u * v := IntWalk.i64_in _ (by omega)
  have g8 : IntKind.i64.wrap (t * t + u * u + v * v - t * u * v) = t * t + u * u + v * v - t * u * v := IntWalk.i64_in _ (by omega)
  have g9 : IntKind.i64.wrap (t * t + u * u + v * v - t * u * v - 2) = t * t + u * u + v * v - t * u * v - 2 := IntWalk.i64_in _ (by omega)
  clear h h2 h3 h4 ht hu hv sa sb sc sd sp sq sr ss n1 n2 n3 n4 k1 k2 k3 k4 k5 k6 k7 k8 k9 k10
  go_enter Try.func15, Try.ntmps15
  go_wp2_with fail
  refine (implIs_is true _ _ _ _ _ H.out).mono ?_
  rintro e w1 ⟨rfl, hb1⟩
  have Bw1_0 : Box w1 (w.heap.size) [.int .i64 a, .int .i64 b, .int .i64 c, .int .i64 d] := by refine Box.below ?_ hb1; repeat (first | with_reducible assumption | with_reducible exact Box.new _ _ _ | (with_reducible refine Box.newAt ?_ _ _; (simp; done)) | with_reducible apply Box.alloc | with_reducible apply Box.drewN | with_reducible apply Box.drew)
  obtain ⟨_, _, _, _, _, _, _, _, _⟩ := Bw1_0.four
  have Bw1_1 : Box w1 (w.heap.size + 1) [.int .i64 p, .int .i64 q, .int .i64 r, .int .i64 s] := by refine Box.below ?_ hb1; repeat (first | with_reducible assumption | with_reducible exact Box.new _ _ _ | (with_reducible refine Box.newAt ?_ _ _; (simp; done)) | with_reducible apply Box.alloc | with_reducible apply Box.drewN | with_reducible apply Box.drew)
  obtain ⟨_, _, _, _, _, _, _, _, _⟩ := Bw1_1.four
  go_wp2_with fail
  refine (implIs_is true _ _ _ _ _ H2.out).mono ?_
  rintro e w2 ⟨rfl, hb2⟩
  have Bw2_0 : Box w2 (w.heap.size) [.int .i64 a, .int .i64 b, .int .i64 c, .int .i64 d] := by refine Box.below ?_ hb2; repeat (first | with_reducible assumption | with_reducible exact Box.new _ _ _ | (with_reducible refine Box.newAt ?_ _ _; (simp; done)) | with_reducible apply Box.alloc | with_reducible apply Box.drewN | with_reducible apply Box.drew)
  obtain ⟨_, _, _, _, _, _, _, _, _⟩ := Bw2_0.four
  have Bw2_1 : Box w2 (w.heap.size + 1) [.int .i64 p, .int .i64 q, .int .i64 r, .int .i64 s] := by refine Box.below ?_ hb2; repeat (first | with_reducible assumption | with_reducible exact Box.new _ _ _ | (with_reducible refine Box.newAt ?_ _ _; (simp; done)) | with_reducible apply Box.alloc | with_reducible apply Box.drewN | with_reducible apply Box.drew)
  obtain ⟨_, _, _, _, _, _, _, _, _⟩ := Bw2_1.four
  go_wp2_with fail
  refine (allW4s_is true _ _ _ _ _ _ H3.out (by assumption) (by assumption) (by assumption) (by assumption)).mono ?_
  rintro e w3 ⟨rfl, rfl⟩
  go_wp2_with fail
  refine (allW4s_is true _ _ _ _ _ _ H4.out (by assumption) (by assumption) (by assumption) (by assumption)).mono ?_
  rintro e w3 ⟨rfl, rfl⟩
  have T : Below w.heap.size w w2 := by repeat (first | with_reducible exact own_refl _ | with_reducible assumption | with_reducible apply own_alloc | with_reducible apply own_drewN | with_reducible apply own_drew | ((with_reducible refine own_setCell ?_ ?_ _); rotate_left; focus (first | (simp; done) | (simp; omega))) | (with_reducible (refine own_trans ?_ (by assumption))))
  have BA := Bw2_0
  have BB := Bw2_1
  go_upto_region 5 with fail
  go_cut [6, 7, 8] (fun s6 s7 s8 wx => s6 = (.int .i64 t) ∧ s7 = (.int .i64 u) ∧ s8 = (.int .i64 v) ∧ Below w.heap.size w wx)
  case first =>
    go_region_held3 (fun w' => w'.cell? ⟨w.heap.size, 0, none⟩ = some (.int .i64 a) ∧ w'.cell? ⟨w.heap.size, 1, none⟩ = some (.int .i64 b) ∧ w'.cell? ⟨w.heap.size, 2, none⟩ = some (.int .i64 c) ∧ w'.cell? ⟨w.heap.size, 3, none⟩ = some (.int .i64 d) ∧ w'.cell? ⟨w.heap.size + 1, 0, none⟩ = some (.int .i64 p) ∧ w'.cell? ⟨w.heap.size + 1, 1, none⟩ = some (.int .i64 q) ∧ w'.cell? ⟨w.heap.size + 1, 2, none⟩ = some (.int .i64 r) ∧ w'.cell? ⟨w.heap.size + 1, 3, none⟩ = some (.int .i64 s)) (go_keep)
      (first
      | (go_at_call 30; with_reducible refine (TA.out _).mono ?_; rintro e w1 ⟨rfl, hb1⟩; have T := (by first | exact own_trans T hb1 | exact own_trans (own_drew T) hb1 : Below w.heap.size w w1); have BA := Box.below (by first | exact BA | exact Box.drew BA) hb1; have BB := Box.below (by first | exact BB | exact Box.drew BB) hb1; obtain ⟨_, _, _, _, _, _, _, _, _⟩ := BA.four; obtain ⟨_, _, _, _, _, _, _, _, _⟩ := BB.four)
      | (go_at_call 30; with_reducible refine (TB.out _).mono ?_; rintro e w1 ⟨rfl, hb1⟩; have T := (by first | exact own_trans T hb1 | exact own_trans (own_drew T) hb1 : Below w.heap.size w w1); have BA := Box.below (by first | exact BA | exact Box.drew BA) hb1; have BB := Box.below (by first | exact BB | exact Box.drew BB) hb1; obtain ⟨_, _, _, _, _, _, _, _, _⟩ := BA.four; obtain ⟨_, _, _, _, _, _, _, _, _⟩ := BB.four)
      | (go_at_call 30; with_reducible refine (TC.out _).mono ?_; rintro e w1 ⟨rfl, hb1⟩; have T := (by first | exact own_trans T hb1 | exact own_trans (own_drew T) hb1 : Below w.heap.size w w1); have BA := Box.below (by first | exact BA | exact Box.drew BA) hb1; have BB := Box.below (by first | exact BB | exact Box.drew BB) hb1; obtain ⟨_, _, _, _, _, _, _, _, _⟩ := BA.four; obtain ⟨_, _, _, _, _, _, _, _, _⟩ := BB.four)
      | (go_at_call 31; with_reducible refine (TM.out _).mono ?_; rintro e w1 ⟨rfl, hb1⟩; have T := (by first | exact own_trans T hb1 | exact own_trans (own_drew T) hb1 : Below w.heap.size w w1); have BA := Box.below (by first | exact BA | exact Box.drew BA) hb1; have BB := Box.below (by first | exact BB | exact Box.drew BB) hb1; obtain ⟨_, _, _, _, _, _, _, _, _⟩ := BA.four; obtain ⟨_, _, _, _, _, _, _, _, _⟩ := BB.four))
    all_goals
      go_wp2_with fail
      go_meet
      exact ⟨rfl, rfl, rfl, T⟩
  case rest =>
    obtain ⟨rfl, rfl, rfl, T⟩ := hcut
    go_wp2
    go_ret2
    exact ⟨rfl, T⟩

theorem smR (x : Int) (r : Bool) (h : inW x 1000 = r) (w : World) : Calls Try.prog 22 #[(.int .i64 x), (.int .i64 (-1000)), (.int .i64 1000)] w fun e w' => e = .returned (.bool r) ∧ w = w' := by
  refine l01In_is r x (-1000) 1000 ?_ w
  rw [← h]; simp [inR, inW]
set_option maxHeartbeats 1000000 in
theorem specCtr_inv1 (a b c d p q r s : Int) (h : isM a b c d = false) (w : World) : Calls Try.prog 13 #[(.agg #[.int .i64 a, .int .i64 b, .int .i64 c, .int .i64 d]), (.agg #[.int .i64 p, .int .i64 q, .int .i64 r, .int .i64 s])] w (RetC 0 1 w) := by
  have H := Lib.hid h
  clear h
  go_enter Try.func13, Try.ntmps13
  go_wp2_with fail
  refine (l01Is_is false _ _ _ _ _ H.out).mono ?_
  rintro e w1 ⟨rfl, hb1⟩
  go_wp2
  go_ret2
  exact ⟨rfl, by repeat (first | with_reducible exact own_refl _ | with_reducible assumption | with_reducible apply own_alloc | with_reducible apply own_drewN | with_reducible apply own_drew | ((with_reducible refine own_setCell ?_ ?_ _); rotate_left; focus (first | (simp; done) | (simp; omega))) | (with_reducible (refine own_trans ?_ (by assumption))))⟩
set_option maxHeartbeats 1000000 in
theorem specCtr_inv2 (a b c d p q r s : Int) (h : isM a b c d = true) (h2 : isM p q r s = false) (w : World) : Calls Try.prog 13 #[(.agg #[.int .i64 a, .int .i64 b, .int .i64 c, .int .i64 d]), (.agg #[.int .i64 p, .int .i64 q, .int .i64 r, .int .i64 s])] w (RetC 0 1 w) := by
  have H := Lib.hid h
  have H2 := Lib.hid h2
  clear h h2
  go_enter Try.func13, Try.ntmps13
  go_wp2_with fail
  refine (l01Is_is true _ _ _ _ _ H.out).mono ?_
  rintro e w1 ⟨rfl, hb1⟩
  have Bw1_0 : Box w1 (w.heap.size) [.int .i64 a, .int .i64 b, .int .i64 c, .int .i64 d] := by refine Box.below ?_ hb1; repeat (first | with_reducible assumption | with_reducible exact Box.new _ _ _ | (with_reducible refine Box.newAt ?_ _ _; (simp; done)) | with_reducible apply Box.alloc | with_reducible apply Box.drewN | with_reducible apply Box.drew)
  obtain ⟨_, _, _, _, _, _, _, _, _⟩ := Bw1_0.four
  have Bw1_1 : Box w1 (w.heap.size + 1) [.int .i64 p, .int .i64 q, .int .i64 r, .int .i64 s] := by refine Box.below ?_ hb1; repeat (first | with_reducible assumption | with_reducible exact Box.new _ _ _ | (with_reducible refine Box.newAt ?_ _ _; (simp; done)) | with_reducible apply Box.alloc | with_reducible apply Box.drewN | with_reducible apply Box.drew)
  obtain ⟨_, _, _, _, _, _, _, _, _⟩ := Bw1_1.four
  go_wp2_with fail
  refine (l01Is_is false _ _ _ _ _ H2.out).mono ?_
  rintro e w2 ⟨rfl, hb2⟩
  go_wp2
  go_ret2
  exact ⟨rfl, by repeat (first | with_reducible exact own_refl _ | with_reducible assumption | with_reducible apply own_alloc | with_reducible apply own_drewN | with_reducible apply own_drew | ((with_reducible refine own_setCell ?_ ?_ _); rotate_left; focus (first | (simp; done) | (simp; omega))) | (with_reducible (refine own_trans ?_ (by assumption))))⟩
/-- the first k numbers of both matrices are small -/
def SmTo (a b c d p q r s : Int) (k : Nat) : Prop := (0 < k → inW a 1000 = true ∧ inW p 1000 = true) ∧ (1 < k → inW b 1000 = true ∧ inW q 1000 = true) ∧ (2 < k → inW c 1000 = true ∧ inW r 1000 = true) ∧ (3 < k → inW d 1000 = true ∧ inW s 1000 = true)
theorem SmTo.all {a b c d p q r s : Int} (h : SmTo a b c d p q r s 4) : allW [a, b, c, d] 1000 = true ∧ allW [p, q, r, s] 1000 = true := by
  obtain ⟨h1, h2, h3, h4⟩ := h
  simp [allW, h1, h2, h3, h4]
set_option maxHeartbeats 8000000 in
theorem specCtr_big (a b c d p q r s : Int) (h : isM a b c d = true) (h2 : isM p q r s = true) (h3 : allW [a, b, c, d] 1000 = false ∨ allW [p, q, r, s] 1000 = false) (w : World) : Calls Try.prog 13 #[(.agg #[.int .i64 a, .int .i64 b, .int .i64 c, .int .i64 d]), (.agg #[.int .i64 p, .int .i64 q, .int .i64 r, .int .i64 s])] w (RetC 0 2 w) := by
  have H := Lib.hid h
  have H2 := Lib.hid h2
  have H3 := Lib.hid h3
  clear h h2 h3
  go_enter Try.func13, Try.ntmps13
  go_wp2_with fail
  refine (l01Is_is true _ _ _ _ _ H.out).mono ?_
  rintro e w1 ⟨rfl, hb1⟩
  have Bw1_0 : Box w1 (w.heap.size) [.int .i64 a, .int .i64 b, .int .i64 c, .int .i64 d] := by refine Box.below ?_ hb1; repeat (first | with_reducible assumption | with_reducible exact Box.new _ _ _ | (with_reducible refine Box.newAt ?_ _ _; (simp; done)) | with_reducible apply Box.alloc | with_reducible apply Box.drewN | with_reducible apply Box.drew)
  obtain ⟨_, _, _, _, _, _, _, _, _⟩ := Bw1_0.four
  have Bw1_1 : Box w1 (w.heap.size + 1) [.int .i64 p, .int .i64 q, .int .i64 r, .int .i64 s] := by refine Box.below ?_ hb1; repeat (first | with_reducible assumption | with_reducible exact Box.new _ _ _ | (with_reducible refine Box.newAt ?_ _ _; (simp; done)) | with_reducible apply Box.alloc | with_reducible apply Box.drewN | with_reducible apply Box.drew)
  obtain ⟨_, _, _, _, _, _, _, _, _⟩ := Bw1_1.four
  go_wp2_with fail
  refine (l01Is_is true _ _ _ _ _ H2.out).mono ?_
  rintro e w2 ⟨rfl, hb2⟩
  have Bw2_0 : Box w2 (w.heap.size) [.int .i64 a, .int .i64 b, .int .i64 c, .int .i64 d] := by refine Box.below ?_ hb2; repeat (first | with_reducible assumption | with_reducible exact Box.new _ _ _ | (with_reducible refine Box.newAt ?_ _ _; (simp; done)) | with_reducible apply Box.alloc | with_reducible apply Box.drewN | with_reducible apply Box.drew)
  obtain ⟨_, _, _, _, _, _, _, _, _⟩ := Bw2_0.four
  have Bw2_1 : Box w2 (w.heap.size + 1) [.int .i64 p, .int .i64 q, .int .i64 r, .int .i64 s] := by refine Box.below ?_ hb2; repeat (first | with_reducible assumption | with_reducible exact Box.new _ _ _ | (with_reducible refine Box.newAt ?_ _ _; (simp; done)) | with_reducible apply Box.alloc | with_reducible apply Box.drewN | with_reducible apply Box.drew)
  obtain ⟨_, _, _, _, _, _, _, _, _⟩ := Bw2_1.four
  have T : Below w.heap.size w w2 := by repeat (first | with_reducible exact own_refl _ | with_reducible assumption | with_reducible apply own_alloc | with_reducible apply own_drewN | with_reducible apply own_drew | ((with_reducible refine own_setCell ?_ ?_ _); rotate_left; focus (first | (simp; done) | (simp; omega))) | (with_reducible (refine own_trans ?_ (by assumption))))
  go_wp2_with fail
  go_loopw [6] (fun i wr => ∃ k : Nat, k ≤ 4 ∧ i = (.int .i64 k) ∧ wr = w2 ∧ SmTo a b c d p q r s k) (fun i _ => 4 - (intOf i).toNat)
  case atStart => exact ⟨0, by omega, rfl, rfl, ⟨fun h => absurd h (by omega), fun h => absurd h (by omega), fun h => absurd h (by omega), fun h => absurd h (by omega)⟩⟩
  case round =>
    obtain ⟨k, hk, rfl, rfl, hsm⟩ := hrel
    have HS := Lib.hid hsm
    clear hsm
    obtain rfl | rfl | rfl | rfl | rfl : k = 0 ∨ k = 1 ∨ k = 2 ∨ k = 3 ∨ k = 4 := by omega
    · rcases e1 : inW a 1000 with _ | _
      · have E1 := Lib.hid e1
        clear e1
        go_wp2_with fail
        refine (smR a false E1.out _).mono ?_
        rintro e w3 ⟨rfl, rfl⟩
        go_wp2
        go_ret2
        exact ⟨rfl, T⟩
      rcases e2 : inW p 1000 with _ | _
      · have E1 := Lib.hid e1
        have E2 := Lib.hid e2
        clear e1 e2
        go_wp2_with fail
        refine (smR a true E1.out _).mono ?_
        rintro e w3 ⟨rfl, rfl⟩
        go_wp2_with fail
        refine (smR p false E2.out _).mono ?_
        rintro e w3 ⟨rfl, rfl⟩
        go_wp2
        go_ret2
        exact ⟨rfl, T⟩
      have E1 := Lib.hid e1
      have E2 := Lib.hid e2
      clear e1 e2
      go_wp2_with fail
      refine (smR a true E1.out _).mono ?_
      rintro e w3 ⟨rfl, rfl⟩
      go_wp2_with fail
      refine (smR p true E2.out _).mono ?_
      rintro e w3 ⟨rfl, rfl⟩
      go_wp2
      go_roundw
      case rel => exact ⟨1, by omega, by first | rfl | go_num, by first | rfl | assumption | simp, ⟨fun _ => ⟨E1.out, E2.out⟩, fun h => absurd h (by omega), fun h => absurd h (by omega), fun h => absurd h (by omega)⟩⟩
      case measure => first | (simp [intOf]; done) | (simp [intOf]; omega)
    · rcases e1 : inW b 1000 with _ | _
      · have E1 := Lib.hid e1
        clear e1
        go_wp2_with fail
        refine (smR b false E1.out _).mono ?_
        rintro e w3 ⟨rfl, rfl⟩
        go_wp2
        go_ret2
        exact ⟨rfl, T⟩
      rcases e2 : inW q 1000 with _ | _
      · have E1 := Lib.hid e1
        have E2 := Lib.hid e2
        clear e1 e2
        go_wp2_with fail
        refine (smR b true E1.out _).mono ?_
        rintro e w3 ⟨rfl, rfl⟩
        go_wp2_with fail
        refine (smR q false E2.out _).mono ?_
        rintro e w3 ⟨rfl, rfl⟩
        go_wp2
        go_ret2
        exact ⟨rfl, T⟩
      have E1 := Lib.hid e1
      have E2 := Lib.hid e2
      clear e1 e2
      go_wp2_with fail
      refine (smR b true E1.out _).mono ?_
      rintro e w3 ⟨rfl, rfl⟩
      go_wp2_with fail
      refine (smR q true E2.out _).mono ?_
      rintro e w3 ⟨rfl, rfl⟩
      go_wp2
      go_roundw
      case rel => exact ⟨2, by omega, by first | rfl | go_num, by first | rfl | assumption | simp, ⟨fun h => HS.out.1 (by omega), fun _ => ⟨E1.out, E2.out⟩, fun h => absurd h (by omega), fun h => absurd h (by omega)⟩⟩
      case measure => first | (simp [intOf]; done) | (simp [intOf]; omega)
    · rcases e1 : inW c 1000 with _ | _
      · have E1 := Lib.hid e1
        clear e1
        go_wp2_with fail
        refine (smR c false E1.out _).mono ?_
        rintro e w3 ⟨rfl, rfl⟩
        go_wp2
        go_ret2
        exact ⟨rfl, T⟩
      rcases e2 : inW r 1000 with _ | _
      · have E1 := Lib.hid e1
        have E2 := Lib.hid e2
        clear e1 e2
        go_wp2_with fail
        refine (smR c true E1.out _).mono ?_
        rintro e w3 ⟨rfl, rfl⟩
        go_wp2_with fail
        refine (smR r false E2.out _).mono ?_
        rintro e w3 ⟨rfl, rfl⟩
        go_wp2
        go_ret2
        exact ⟨rfl, T⟩
      have E1 := Lib.hid e1
      have E2 := Lib.hid e2
      clear e1 e2
      go_wp2_with fail
      refine (smR c true E1.out _).mono ?_
      rintro e w3 ⟨rfl, rfl⟩
      go_wp2_with fail
      refine (smR r true E2.out _).mono ?_
      rintro e w3 ⟨rfl, rfl⟩
      go_wp2
      go_roundw
      case rel => exact ⟨3, by omega, by first | rfl | go_num, by first | rfl | assumption | simp, ⟨fun h => HS.out.1 (by omega), fun h => HS.out.2.1 (by omega), fun _ => ⟨E1.out, E2.out⟩, fun h => absurd h (by omega)⟩⟩
      case measure => first | (simp [intOf]; done) | (simp [intOf]; omega)
    · rcases e1 : inW d 1000 with _ | _
      · have E1 := Lib.hid e1
        clear e1
        go_wp2_with fail
        refine (smR d false E1.out _).mono ?_
        rintro e w3 ⟨rfl, rfl⟩
        go_wp2
        go_ret2
        exact ⟨rfl, T⟩
      rcases e2 : inW s 1000 with _ | _
      · have E1 := Lib.hid e1
        have E2 := Lib.hid e2
        clear e1 e2
        go_wp2_with fail
        refine (smR d true E1.out _).mono ?_
        rintro e w3 ⟨rfl, rfl⟩
        go_wp2_with fail
        refine (smR s false E2.out _).mono ?_
        rintro e w3 ⟨rfl, rfl⟩
        go_wp2
        go_ret2
        exact ⟨rfl, T⟩
      have E1 := Lib.hid e1
      have E2 := Lib.hid e2
      clear e1 e2
      go_wp2_with fail
      refine (smR d true E1.out _).mono ?_
      rintro e w3 ⟨rfl, rfl⟩
      go_wp2_with fail
      refine (smR s true E2.out _).mono ?_
      rintro e w3 ⟨rfl, rfl⟩
      go_wp2
      go_roundw
      case rel => exact ⟨4, by omega, by first | rfl | go_num, by first | rfl | assumption | simp, ⟨fun h => HS.out.1 (by omega), fun h => HS.out.2.1 (by omega), fun h => HS.out.2.2.1 (by omega), fun _ => ⟨E1.out, E2.out⟩⟩⟩
      case measure => first | (simp [intOf]; done) | (simp [intOf]; omega)
    · have := HS.out.all
      have := H3.out
      simp_all
set_option maxHeartbeats 8000000 in
theorem specCtr_yes (a b c d p q r s t u v : Int) (h : isM a b c d = true) (h2 : isM p q r s = true) (h3 : allW [a, b, c, d] 1000 = true) (h4 : allW [p, q, r, s] 1000 = true)
    (ht : a + d = t) (hu : p + s = u) (hv : a * p + b * r + (c * q + d * s) = v) (w : World) : Calls Try.prog 13 #[(.agg #[.int .i64 a, .int .i64 b, .int .i64 c, .int .i64 d]), (.agg #[.int .i64 p, .int .i64 q, .int .i64 r, .int .i64 s])] w (RetC (t * t + u * u + v * v - t * u * v - 2) 0 w) := by
  have H := Lib.hid h
  have H2 := Lib.hid h2
  obtain ⟨sa, sb, sc, sd⟩ := (allW4s _ _ _ _).1 h3
  obtain ⟨sp, sq, sr, ss⟩ := (allW4s _ _ _ _).1 h4
  have H5 : Hid ((inW a 1000 = true ∧ inW p 1000 = true) ∧ (inW b 1000 = true ∧ inW q 1000 = true) ∧ (inW c 1000 = true ∧ inW r 1000 = true) ∧ (inW d 1000 = true ∧ inW s 1000 = true)) := Lib.hid ⟨⟨sm_iff.2 sa, sm_iff.2 sp⟩, ⟨sm_iff.2 sb, sm_iff.2 sq⟩, ⟨sm_iff.2 sc, sm_iff.2 sr⟩, ⟨sm_iff.2 sd, sm_iff.2 ss⟩⟩
  obtain ⟨n1, n2, n3, n4, ⟨k1, k2⟩, ⟨k3, k4⟩, ⟨k5, k6⟩, ⟨k7, k8⟩, ⟨k9, k10⟩⟩ := ctr_bd sa sb sc sd sp sq sr ss ht hu hv
  have TA : Hid (∀ w : World, Calls Try.prog 27 #[(.agg #[.int .i64 a, .int .i64 b, .int .i64 c, .int .i64 d])] w fun e w' => e = .returned (.int .i64 t) ∧ Below w.heap.size w w') := Lib.hid fun w => ht ▸ l01Trace_any a b c d sa.ent sd.ent w
  have TB : Hid (∀ w : World, Calls Try.prog 27 #[(.agg #[.int .i64 p, .int .i64 q, .int .i64 r, .int .i64 s])] w fun e w' => e = .returned (.int .i64 u) ∧ Below w.heap.size w w') := Lib.hid fun w => hu ▸ l01Trace_any p q r s sp.ent ss.ent w
  have TC : Hid (∀ w : World, Calls Try.prog 27 #[(.agg #[.int .i64 (a * p + b * r), .int .i64 (a * q + b * s), .int .i64 (c * p + d * r), .int .i64 (c * q + d * s)])] w fun e w' => e = .returned (.int .i64 v) ∧ Below w.heap.size w w') := Lib.hid fun w => hv ▸ l01Trace_any _ _ _ _ n1 n4 w
  have TM : Hid (∀ w : World, Calls Try.prog 26 #[(.agg #[.int .i64 a, .int .i64 b, .int .i64 c, .int .i64 d]), (.agg #[.int .i64 p, .int .i64 q, .int .i64 r, .int .i64 s])] w fun e w' => e = .returned (.tuple #[(.agg #[.int .i64 (a * p + b * r), .int .i64 (a * q + b * s), .int .i64 (c * p + d * r), .int .i64 (c * q + d * s)]), .bool true]) ∧ Below w.heap.size w w') := Lib.hid fun w => times_yes a b c d p q r s sa.ent sb.ent sc.ent sd.ent sp.ent sq.ent sr.ent ss.ent ((allW4 _ _ _ _).2 ⟨n1, n2, n3, n4⟩) w
  have g1 : IntKind.i64.wrap (t * t) = t * t := IntWalk.i64_in _ (by omega)
  have g2 : IntKind.i64.wrap (u * u) = u * u := IntWalk.i64_in _ (by omega)
  have g3 : IntKind.i64.wrap (v * v) = v * v := IntWalk.i64_in _ (by omega)
  have g4 : IntKind.i64.wrap (t * t + u * u) = t * t + u * u := IntWalk.i64_in _ (by omega)
  have g5 : IntKind.i64.wrap (t * t + u * u + v * v) = t * t + u * u + v * v := IntWalk.i64_in _ (by omega)
  have g6 : IntKind.i64.wrap (t * u) = t * u := IntWalk.i64_in _ (by omega)
  have g7 : IntKind.i64.wrap (t * u * v) = t * u * v := IntWalk.i64_in _ (by omega)
  have g8 : IntKind.i64.wrap (t * t + u * u + v * v - t * u * v) = t * t + u * u + v * v - t * u * v := IntWalk.i64_in _ (by omega)
  have g9 : IntKind.i64.wrap (t * t + u * u + v * v - t * u * v - 2) = t * t + u * u + v * v - t * u * v - 2 := IntWalk.i64_in _ (by omega)
  clear h h2 h3 h4 ht hu hv sa sb sc sd sp sq sr ss n1 n2 n3 n4 k1 k2 k3 k4 k5 k6 k7 k8 k9 k10
  go_enter Try.func13, Try.ntmps13
  go_wp2_with fail
  refine (l01Is_is true _ _ _ _ _ H.out).mono ?_
  rintro e w1 ⟨rfl, hb1⟩
  have Bw1_0 : Box w1 (w.heap.size) [.int .i64 a, .int .i64 b, .int .i64 c, .int .i64 d] := by refine Box.below ?_ hb1; repeat (first | with_reducible assumption | with_reducible exact Box.new _ _ _ | (with_reducible refine Box.newAt ?_ _ _; (simp; done)) | with_reducible apply Box.alloc | with_reducible apply Box.drewN | with_reducible apply Box.drew)
  obtain ⟨_, _, _, _, _, _, _, _, _⟩ := Bw1_0.four
  have Bw1_1 : Box w1 (w.heap.size + 1) [.int .i64 p, .int .i64 q, .int .i64 r, .int .i64 s] := by refine Box.below ?_ hb1; repeat (first | with_reducible assumption | with_reducible exact Box.new _ _ _ | (with_reducible refine Box.newAt ?_ _ _; (simp; done)) | with_reducible apply Box.alloc | with_reducible apply Box.drewN | with_reducible apply Box.drew)
  obtain ⟨_, _, _, _, _, _, _, _, _⟩ := Bw1_1.four
  go_wp2_with fail
  refine (l01Is_is true _ _ _ _ _ H2.out).mono ?_
  rintro e w2 ⟨rfl, hb2⟩
  have Bw2_0 : Box w2 (w.heap.size) [.int .i64 a, .int .i64 b, .int .i64 c, .int .i64 d] := by refine Box.below ?_ hb2; repeat (first | with_reducible assumption | with_reducible exact Box.new _ _ _ | (with_reducible refine Box.newAt ?_ _ _; (simp; done)) | with_reducible apply Box.alloc | with_reducible apply Box.drewN | with_reducible apply Box.drew)
  obtain ⟨_, _, _, _, _, _, _, _, _⟩ := Bw2_0.four
  have Bw2_1 : Box w2 (w.heap.size + 1) [.int .i64 p, .int .i64 q, .int .i64 r, .int .i64 s] := by refine Box.below ?_ hb2; repeat (first | with_reducible assumption | with_reducible exact Box.new _ _ _ | (with_reducible refine Box.newAt ?_ _ _; (simp; done)) | with_reducible apply Box.alloc | with_reducible apply Box.drewN | with_reducible apply Box.drew)
  obtain ⟨_, _, _, _, _, _, _, _, _⟩ := Bw2_1.four
  have T : Below w.heap.size w w2 := by repeat (first | with_reducible exact own_refl _ | with_reducible assumption | with_reducible apply own_alloc | with_reducible apply own_drewN | with_reducible apply own_drew | ((with_reducible refine own_setCell ?_ ?_ _); rotate_left; focus (first | (simp; done) | (simp; omega))) | (with_reducible (refine own_trans ?_ (by assumption))))
  go_wp2_with fail
  go_loopw [6] (fun i wr => ∃ k : Nat, k ≤ 4 ∧ i = (.int .i64 k) ∧ wr = w2 ∧ SmTo a b c d p q r s k) (fun i _ => 4 - (intOf i).toNat)
  case atStart => exact ⟨0, by omega, rfl, rfl, ⟨fun h => absurd h (by omega), fun h => absurd h (by omega), fun h => absurd h (by omega), fun h => absurd h (by omega)⟩⟩
  case round =>
    obtain ⟨k, hk, rfl, rfl, hsm⟩ := hrel
    have HS := Lib.hid hsm
    clear hsm
    obtain rfl | rfl | rfl | rfl | rfl : k = 0 ∨ k = 1 ∨ k = 2 ∨ k = 3 ∨ k = 4 := by omega
    · have E1 : Hid (inW a 1000 = true) := Lib.hid (H5.out.1.1)
      have E2 : Hid (inW p 1000 = true) := Lib.hid (H5.out.1.2)
      go_wp2_with fail
      refine (smR a true E1.out _).mono ?_
      rintro e w3 ⟨rfl, rfl⟩
      go_wp2_with fail
      refine (smR p true E2.out _).mono ?_
      rintro e w3 ⟨rfl, rfl⟩
      go_wp2
      go_roundw
      case rel => exact ⟨1, by omega, by first | rfl | go_num, by first | rfl | assumption | simp, ⟨fun _ => ⟨E1.out, E2.out⟩, fun h => absurd h (by omega), fun h => absurd h (by omega), fun h => absurd h (by omega)⟩⟩
      case measure => first | (simp [intOf]; done) | (simp [intOf]; omega)
    · have E1 : Hid (inW b 1000 = true) := Lib.hid (H5.out.2.1.1)
      have E2 : Hid (inW q 1000 = true) := Lib.hid (H5.out.2.1.2)
      go_wp2_with fail
      refine (smR b true E1.out _).mono ?_
      rintro e w3 ⟨rfl, rfl⟩
      go_wp2_with fail
      refine (smR q true E2.out _).mono ?_
      rintro e w3 ⟨rfl, rfl⟩
      go_wp2
      go_roundw
      case rel => exact ⟨2, by omega, by first | rfl | go_num, by first | rfl | assumption | simp, ⟨fun h => HS.out.1 (by omega), fun _ => ⟨E1.out, E2.out⟩, fun h => absurd h (by omega), fun h => absurd h (by omega)⟩⟩
      case measure => first | (simp [intOf]; done) | (simp [intOf]; omega)
    · have E1 : Hid (inW c 1000 = true) := Lib.hid (H5.out.2.2.1.1)
      have E2 : Hid (inW r 1000 = true) := Lib.hid (H5.out.2.2.1.2)
      go_wp2_with fail
      refine (smR c true E1.out _).mono ?_
      rintro e w3 ⟨rfl, rfl⟩
      go_wp2_with fail
      refine (smR r true E2.out _).mono ?_
      rintro e w3 ⟨rfl, rfl⟩
      go_wp2
      go_roundw
      case rel => exact ⟨3, by omega, by first | rfl | go_num, by first | rfl | assumption | simp, ⟨fun h => HS.out.1 (by omega), fun h => HS.out.2.1 (by omega), fun _ => ⟨E1.out, E2.out⟩, fun h => absurd h (by omega)⟩⟩
      case measure => first | (simp [intOf]; done) | (simp [intOf]; omega)
    · have E1 : Hid (inW d 1000 = true) := Lib.hid (H5.out.2.2.2.1)
      have E2 : Hid (inW s 1000 = true) := Lib.hid (H5.out.2.2.2.2)
      go_wp2_with fail
      refine (smR d true E1.out _).mono ?_
      rintro e w3 ⟨rfl, rfl⟩
      go_wp2_with fail
      refine (smR s true E2.out _).mono ?_
      rintro e w3 ⟨rfl, rfl⟩
      go_wp2
      go_roundw
      case rel => exact ⟨4, by omega, by first | rfl | go_num, by first | rfl | assumption | simp, ⟨fun h => HS.out.1 (by omega), fun h => HS.out.2.1 (by omega), fun h => HS.out.2.2.1 (by omega), fun _ => ⟨E1.out, E2.out⟩⟩⟩
      case measure => first | (simp [intOf]; done) | (simp [intOf]; omega)
    · clear HS
      go_wp2_with fail
      refine (TM.out _).mono ?_
      rintro e w3 ⟨rfl, hb3⟩
      have T := own_trans T hb3
      have BA := Bw2_0.below hb3
      have BB := Bw2_1.below hb3
      go_upto_region 9 with fail
      have T := own_alloc T (.cells #[.int .i64 (a * p + b * r), .int .i64 (a * q + b * s), .int .i64 (c * p + d * r), .int .i64 (c * q + d * s)] 34)
      have BA := BA.alloc (.cells #[.int .i64 (a * p + b * r), .int .i64 (a * q + b * s), .int .i64 (c * p + d * r), .int .i64 (c * q + d * s)] 34)
      have BB := BB.alloc (.cells #[.int .i64 (a * p + b * r), .int .i64 (a * q + b * s), .int .i64 (c * p + d * r), .int .i64 (c * q + d * s)] 34)
      have BC : Box (w3.alloc (.cells #[.int .i64 (a * p + b * r), .int .i64 (a * q + b * s), .int .i64 (c * p + d * r), .int .i64 (c * q + d * s)] 34)) w3.heap.size [.int .i64 (a * p + b * r), .int .i64 (a * q + b * s), .int .i64 (c * p + d * r), .int .i64 (c * q + d * s)] := Box.new _ _ _
      obtain ⟨_, _, _, _, _, _, _, _, _⟩ := BA.four
      obtain ⟨_, _, _, _, _, _, _, _, _⟩ := BB.four
      go_cut [9, 10, 11] (fun s6 s7 s8 wx => s6 = (.int .i64 t) ∧ s7 = (.int .i64 u) ∧ s8 = (.int .i64 v) ∧ Below w.heap.size w wx)
      case first =>
        go_region_held3 (fun w' => w'.cell? ⟨w.heap.size, 0, none⟩ = some (.int .i64 a) ∧ w'.cell? ⟨w.heap.size, 1, none⟩ = some (.int .i64 b) ∧ w'.cell? ⟨w.heap.size, 2, none⟩ = some (.int .i64 c) ∧ w'.cell? ⟨w.heap.size, 3, none⟩ = some (.int .i64 d) ∧ w'.cell? ⟨w.heap.size + 1, 0, none⟩ = some (.int .i64 p) ∧ w'.cell? ⟨w.heap.size + 1, 1, none⟩ = some (.int .i64 q) ∧ w'.cell? ⟨w.heap.size + 1, 2, none⟩ = some (.int .i64 r) ∧ w'.cell? ⟨w.heap.size + 1, 3, none⟩ = some (.int .i64 s) ∧ w'.cell? ⟨w3.heap.size, 0, none⟩ = some (.int .i64 (a * p + b * r)) ∧ w'.cell? ⟨w3.heap.size, 1, none⟩ = some (.int .i64 (a * q + b * s)) ∧ w'.cell? ⟨w3.heap.size, 2, none⟩ = some (.int .i64 (c * p + d * r)) ∧ w'.cell? ⟨w3.heap.size, 3, none⟩ = some (.int .i64 (c * q + d * s))) (go_keep)
          (first
          | (go_at_call 27; with_reducible refine (TA.out _).mono ?_; rintro e w1 ⟨rfl, hb1⟩; have T := (by first | exact own_trans T hb1 | exact own_trans (own_drew T) hb1 : Below w.heap.size w w1); have BA := Box.below (by first | exact BA | exact Box.drew BA) hb1; have BB := Box.below (by first | exact BB | exact Box.drew BB) hb1; have BC := Box.below (by first | exact BC | exact Box.drew BC) hb1; obtain ⟨_, _, _, _, _, _, _, _, _⟩ := BA.four; obtain ⟨_, _, _, _, _, _, _, _, _⟩ := BB.four; obtain ⟨_, _, _, _, _, _, _, _, _⟩ := BC.four)
          | (go_at_call 27; with_reducible refine (TB.out _).mono ?_; rintro e w1 ⟨rfl, hb1⟩; have T := (by first | exact own_trans T hb1 | exact own_trans (own_drew T) hb1 : Below w.heap.size w w1); have BA := Box.below (by first | exact BA | exact Box.drew BA) hb1; have BB := Box.below (by first | exact BB | exact Box.drew BB) hb1; have BC := Box.below (by first | exact BC | exact Box.drew BC) hb1; obtain ⟨_, _, _, _, _, _, _, _, _⟩ := BA.four; obtain ⟨_, _, _, _, _, _, _, _, _⟩ := BB.four; obtain ⟨_, _, _, _, _, _, _, _, _⟩ := BC.four)
          | (go_at_call 27; with_reducible refine (TC.out _).mono ?_; rintro e w1 ⟨rfl, hb1⟩; have T := (by first | exact own_trans T hb1 | exact own_trans (own_drew T) hb1 : Below w.heap.size w w1); have BA := Box.below (by first | exact BA | exact Box.drew BA) hb1; have BB := Box.below (by first | exact BB | exact Box.drew BB) hb1; have BC := Box.below (by first | exact BC | exact Box.drew BC) hb1; obtain ⟨_, _, _, _, _, _, _, _, _⟩ := BA.four; obtain ⟨_, _, _, _, _, _, _, _, _⟩ := BB.four; obtain ⟨_, _, _, _, _, _, _, _, _⟩ := BC.four))
        all_goals
          go_wp2_with fail
          go_meet
          exact ⟨rfl, rfl, rfl, T⟩
      case rest =>
        obtain ⟨rfl, rfl, rfl, T⟩ := hcut
        go_wp2
        go_ret2
        exact ⟨rfl, T⟩
end Go.Proofs.Ytkeadknbdihkmaa
