/- Matrices of neighbours: contracts of both sides. -/
import Derived.Test.YteknmpnkjoopfaaDoorNei
namespace Go.Proofs.YteknmpnkjoopfaaDoor
open Go.ChangeShapes Go.WideShapes Go.ChangeAt Go.RowKit

set_option maxHeartbeats 1000000 in
theorem columns_is (p q s t D x y : Int) (hD : detF p q s t = D) (hd : D = 1 ∨ D = -1) (hx : D * s = x) (hy : D * t = y) (hp : Ent p) (hq : Ent q) (hs : Ent s) (ht : Ent t) (w : World) :
    Calls Tryd.prog 70 #[(.agg #[.int .i64 p, .int .i64 q]), (.agg #[.int .i64 s, .int .i64 t])] w fun e w' => e = .returned (.agg #[.int .i64 p, .int .i64 x, .int .i64 q, .int .i64 y]) ∧ Below w.heap.size w w' := by
  have HD := Lib.hid hD
  have HE := Lib.hid (show Ent p ∧ Ent q ∧ Ent s ∧ Ent t from ⟨hp, hq, hs, ht⟩)
  have bx : Ent x := by rcases hd with rfl | rfl <;> (unfold Ent at *; omega)
  have by' : Ent y := by rcases hd with rfl | rfl <;> (unfold Ent at *; omega)
  have b1 : -1000000000 ≤ D * s ∧ D * s ≤ 1000000000 := by rw [hx]; exact bx
  have b2 : -1000000000 ≤ D * t ∧ D * t ≤ 1000000000 := by rw [hy]; exact by'
  have HX := Lib.hid hx
  have HY := Lib.hid hy
  clear hD hx hy hp hq hs ht bx by' hd
  obtain ⟨_, _⟩ := b1
  obtain ⟨_, _⟩ := b2
  go_enter Tryd.func70, Tryd.ntmps70
  go_wp2_with fail
  refine (det_is p q s t D HD.out HE.out.1 HE.out.2.1 HE.out.2.2.1 HE.out.2.2.2 _).mono ?_
  rintro e w1 ⟨rfl, hb1⟩
  have A1 : Box w1 w.heap.size [.int .i64 p, .int .i64 q] := Box.below (Box.alloc (Box.alloc (Box.new _ _ _) _) _) hb1
  have B1 : Box w1 (w.heap.size + 1) [.int .i64 s, .int .i64 t] := Box.below (Box.alloc (Box.newAt (by simp) _ _) _) hb1
  have Z1 : Box w1 (w.heap.size + 1 + 1) [.int .i64 0, .int .i64 0, .int .i64 0, .int .i64 0] := Box.below (Box.newAt (by simp) _ _) hb1
  obtain ⟨_, _, _, _, _⟩ := A1.two
  obtain ⟨_, _, _, _, _⟩ := B1.two
  obtain ⟨_, _, _, _, _, _, _, _, _⟩ := Z1.four
  go_wp2
  obtain ⟨d0, d1, d2, d3⟩ := Z1.reads4 (.int .i64 p) (.int .i64 x) (.int .i64 q) (.int .i64 y)
  exact bodyPost_ret (v := (.agg #[.int .i64 p, .int .i64 x, .int .i64 q, .int .i64 y])) (by simp [results, Tryd.results70, go_sem, d0, d1, d2, d3, HX.out, HY.out]) rfl ⟨rfl, by repeat (first | with_reducible exact own_refl _ | with_reducible assumption | with_reducible apply own_alloc | with_reducible apply own_drewN | with_reducible apply own_drew | ((with_reducible refine own_setCell ?_ ?_ _); rotate_left; focus (first | (simp; done) | (simp; omega))) | (with_reducible (refine own_trans ?_ (by assumption))))⟩

set_option maxHeartbeats 1000000 in
theorem implMoN_bad (p q s t : Int) (h : ¬ (isF p q = true ∧ isF s t = true)) (a : Addr) (w : World) (hE : Er w a) :
    Calls Tryd.prog 32 #[(.agg #[.int .i64 p, .int .i64 q]), (.agg #[.int .i64 s, .int .i64 t])] w fun e w' => e = .returned (.tuple #[(.agg #[.int .i64 0, .int .i64 0, .int .i64 0, .int .i64 0]), (.int .i64 1)]) ∧ Below w.heap.size w w' := by
  have H := Lib.hid h
  have HE := Lib.hid hE
  clear h hE
  go_enter Tryd.func32, Tryd.ntmps32
  go_wp2_with fail
  refine (implNei_no p q s t H.out a _ (((HE.out.alloc _).alloc _).alloc _)).mono ?_
  rintro e w1 ⟨rfl, hb1⟩
  have Z1 : Box w1 (w.heap.size + 1 + 1) [.int .i64 0, .int .i64 0, .int .i64 0, .int .i64 0] := Box.below (Box.newAt (by simp) _ _) hb1
  obtain ⟨_, _, _, _, _, _, _, _, _⟩ := Z1.four
  go_wp2
  obtain ⟨_, d0, d1, d2, d3, _, _, _, _⟩ := (Z1.put4 (.int .i64 0) (.int .i64 0) (.int .i64 0) (.int .i64 0)).four
  exact bodyPost_ret (v := .tuple #[(.agg #[.int .i64 0, .int .i64 0, .int .i64 0, .int .i64 0]), (.int .i64 1)]) (by simp [results, Tryd.results32, go_sem, d0, d1, d2, d3]) rfl ⟨rfl, by repeat (first | with_reducible exact own_refl _ | with_reducible assumption | with_reducible apply own_alloc | with_reducible apply own_drewN | with_reducible apply own_drew | ((with_reducible refine own_setCell ?_ ?_ _); rotate_left; focus (first | (simp; done) | (simp; omega))) | (with_reducible (refine own_trans ?_ (by assumption))))⟩
set_option maxHeartbeats 1000000 in
theorem implMoN_far (p q s t D : Int) (h1 : isF p q = true) (h2 : isF s t = true) (hD : detF p q s t = D) (hr : ((D.natAbs : Int) == 1) = false) (w : World) :
    Calls Tryd.prog 32 #[(.agg #[.int .i64 p, .int .i64 q]), (.agg #[.int .i64 s, .int .i64 t])] w fun e w' => e = .returned (.tuple #[(.agg #[.int .i64 0, .int .i64 0, .int .i64 0, .int .i64 0]), (.int .i64 5)]) ∧ Below w.heap.size w w' := by
  have H1 := Lib.hid h1
  have H2 := Lib.hid h2
  have HD := Lib.hid hD
  have HR := Lib.hid hr
  clear h1 h2 hD hr
  go_enter Tryd.func32, Tryd.ntmps32
  go_wp2_with fail
  refine (implNei_yes p q s t D false H1.out H2.out HD.out HR.out _).mono ?_
  rintro e w1 ⟨rfl, hb1⟩
  have Z1 : Box w1 (w.heap.size + 1 + 1) [.int .i64 0, .int .i64 0, .int .i64 0, .int .i64 0] := Box.below (Box.newAt (by simp) _ _) hb1
  obtain ⟨_, _, _, _, _, _, _, _, _⟩ := Z1.four
  go_wp2
  obtain ⟨_, d0, d1, d2, d3, _, _, _, _⟩ := (Z1.put4 (.int .i64 0) (.int .i64 0) (.int .i64 0) (.int .i64 0)).four
  exact bodyPost_ret (v := .tuple #[(.agg #[.int .i64 0, .int .i64 0, .int .i64 0, .int .i64 0]), (.int .i64 5)]) (by simp [results, Tryd.results32, go_sem, d0, d1, d2, d3]) rfl ⟨rfl, by repeat (first | with_reducible exact own_refl _ | with_reducible assumption | with_reducible apply own_alloc | with_reducible apply own_drewN | with_reducible apply own_drew | ((with_reducible refine own_setCell ?_ ?_ _); rotate_left; focus (first | (simp; done) | (simp; omega))) | (with_reducible (refine own_trans ?_ (by assumption))))⟩
set_option maxHeartbeats 1000000 in
theorem implMoN_near (p q s t D x y : Int) (h1 : isF p q = true) (h2 : isF s t = true) (hD : detF p q s t = D) (hd : D = 1 ∨ D = -1) (hx : D * s = x) (hy : D * t = y) (w : World) :
    Calls Tryd.prog 32 #[(.agg #[.int .i64 p, .int .i64 q]), (.agg #[.int .i64 s, .int .i64 t])] w fun e w' => e = .returned (.tuple #[(.agg #[.int .i64 p, .int .i64 x, .int .i64 q, .int .i64 y]), (.int .i64 0)]) ∧ Below w.heap.size w w' := by
  have H1 := Lib.hid h1
  have H2 := Lib.hid h2
  have HD := Lib.hid hD
  have HX := Lib.hid hx
  have HY := Lib.hid hy
  have HS := Lib.hid hd
  have HR := Lib.hid (show ((D.natAbs : Int) == 1) = true by simp; omega)
  have HE := Lib.hid (show Ent p ∧ Ent q ∧ Ent s ∧ Ent t from ⟨(isF_ent h1).1, (isF_ent h1).2.1, (isF_ent h2).1, (isF_ent h2).2.1⟩)
  clear h1 h2 hD hd hx hy
  go_enter Tryd.func32, Tryd.ntmps32
  go_wp2_with fail
  refine (implNei_yes p q s t D true H1.out H2.out HD.out HR.out _).mono ?_
  rintro e w1 ⟨rfl, hb1⟩
  have A1 : Box w1 w.heap.size [.int .i64 p, .int .i64 q] := Box.below (Box.alloc (Box.alloc (Box.new _ _ _) _) _) hb1
  have B1 : Box w1 (w.heap.size + 1) [.int .i64 s, .int .i64 t] := Box.below (Box.alloc (Box.newAt (by simp) _ _) _) hb1
  have Z1 : Box w1 (w.heap.size + 1 + 1) [.int .i64 0, .int .i64 0, .int .i64 0, .int .i64 0] := Box.below (Box.newAt (by simp) _ _) hb1
  obtain ⟨_, _, _, _, _⟩ := A1.two
  obtain ⟨_, _, _, _, _⟩ := B1.two
  go_wp2_with fail
  refine (columns_is p q s t D x y HD.out HS.out HX.out HY.out HE.out.1 HE.out.2.1 HE.out.2.2.1 HE.out.2.2.2 _).mono ?_
  rintro e w2 ⟨rfl, hb2⟩
  have Z2 := Z1.below hb2
  obtain ⟨_, _, _, _, _, _, _, _, _⟩ := Z2.four
  go_wp2
  obtain ⟨_, d0, d1, d2, d3, _, _, _, _⟩ := (Z2.put4 (.int .i64 p) (.int .i64 x) (.int .i64 q) (.int .i64 y)).four
  exact bodyPost_ret (v := .tuple #[(.agg #[.int .i64 p, .int .i64 x, .int .i64 q, .int .i64 y]), (.int .i64 0)]) (by simp [results, Tryd.results32, go_sem, d0, d1, d2, d3]) rfl ⟨rfl, by repeat (first | with_reducible exact own_refl _ | with_reducible assumption | with_reducible apply own_alloc | with_reducible apply own_drewN | with_reducible apply own_drew | ((with_reducible refine own_setCell ?_ ?_ _); rotate_left; focus (first | (simp; done) | (simp; omega))) | (with_reducible (refine own_trans ?_ (by assumption))))⟩

set_option maxHeartbeats 1000000 in
theorem specMoN_bad (p q s t : Int) (h : ¬ (isF p q = true ∧ isF s t = true)) (w : World) :
    Calls Tryd.prog 31 #[(.agg #[.int .i64 p, .int .i64 q]), (.agg #[.int .i64 s, .int .i64 t])] w fun e w' => e = .returned (.tuple #[(.agg #[.int .i64 0, .int .i64 0, .int .i64 0, .int .i64 0]), (.int .i64 1)]) ∧ Below w.heap.size w w' := by
  have H := Lib.hid h
  clear h
  go_enter Tryd.func31, Tryd.ntmps31
  go_wp2_with fail
  refine (both_no p q s t H.out _).mono ?_
  rintro e w1 ⟨rfl, hb1⟩
  have Z1 : Box w1 (w.heap.size + 1 + 1) [.int .i64 0, .int .i64 0, .int .i64 0, .int .i64 0] := Box.below (Box.newAt (by simp) _ _) hb1
  obtain ⟨_, _, _, _, _, _, _, _, _⟩ := Z1.four
  go_wp2
  obtain ⟨_, d0, d1, d2, d3, _, _, _, _⟩ := (Z1.put4 (.int .i64 0) (.int .i64 0) (.int .i64 0) (.int .i64 0)).four
  exact bodyPost_ret (v := .tuple #[(.agg #[.int .i64 0, .int .i64 0, .int .i64 0, .int .i64 0]), (.int .i64 1)]) (by simp [results, Tryd.results31, go_sem, d0, d1, d2, d3]) rfl ⟨rfl, by repeat (first | with_reducible exact own_refl _ | with_reducible assumption | with_reducible apply own_alloc | with_reducible apply own_drewN | with_reducible apply own_drew | ((with_reducible refine own_setCell ?_ ?_ _); rotate_left; focus (first | (simp; done) | (simp; omega))) | (with_reducible (refine own_trans ?_ (by assumption))))⟩
set_option maxHeartbeats 2000000 in
theorem specMoN_far (p q s t D : Int) (h1 : isF p q = true) (h2 : isF s t = true) (hD : detF p q s t = D) (hr : (decide (D = 1) || decide (D = -1)) = false) (w : World) :
    Calls Tryd.prog 31 #[(.agg #[.int .i64 p, .int .i64 q]), (.agg #[.int .i64 s, .int .i64 t])] w fun e w' => e = .returned (.tuple #[(.agg #[.int .i64 0, .int .i64 0, .int .i64 0, .int .i64 0]), (.int .i64 5)]) ∧ Below w.heap.size w w' := by
  have H1 := Lib.hid h1
  have H2 := Lib.hid h2
  have HD := Lib.hid hD
  have HR := Lib.hid hr
  have HE := Lib.hid (show Ent p ∧ Ent q ∧ Ent s ∧ Ent t from ⟨(isF_ent h1).1, (isF_ent h1).2.1, (isF_ent h2).1, (isF_ent h2).2.1⟩)
  clear h1 h2 hD hr
  go_enter Tryd.func31, Tryd.ntmps31
  go_wp2_with fail
  refine (both_yes p q s t H1.out H2.out _).mono ?_
  rintro e w1 ⟨rfl, hb1⟩
  have A1 : Box w1 w.heap.size [.int .i64 p, .int .i64 q] := Box.below (Box.alloc (Box.alloc (Box.new _ _ _) _) _) hb1
  have B1 : Box w1 (w.heap.size + 1) [.int .i64 s, .int .i64 t] := Box.below (Box.alloc (Box.newAt (by simp) _ _) _) hb1
  have Z1 : Box w1 (w.heap.size + 1 + 1) [.int .i64 0, .int .i64 0, .int .i64 0, .int .i64 0] := Box.below (Box.newAt (by simp) _ _) hb1
  obtain ⟨_, _, _, _, _⟩ := A1.two
  obtain ⟨_, _, _, _, _⟩ := B1.two
  go_wp2_with fail
  refine (near_is p q s t D HD.out false HR.out HE.out.1 HE.out.2.1 HE.out.2.2.1 HE.out.2.2.2 _).mono ?_
  rintro e w2 ⟨rfl, hb2⟩
  have Z2 := Z1.below hb2
  obtain ⟨_, _, _, _, _, _, _, _, _⟩ := Z2.four
  go_wp2
  obtain ⟨_, d0, d1, d2, d3, _, _, _, _⟩ := (Z2.put4 (.int .i64 0) (.int .i64 0) (.int .i64 0) (.int .i64 0)).four
  exact bodyPost_ret (v := .tuple #[(.agg #[.int .i64 0, .int .i64 0, .int .i64 0, .int .i64 0]), (.int .i64 5)]) (by simp [results, Tryd.results31, go_sem, d0, d1, d2, d3]) rfl ⟨rfl, by repeat (first | with_reducible exact own_refl _ | with_reducible assumption | with_reducible apply own_alloc | with_reducible apply own_drewN | with_reducible apply own_drew | ((with_reducible refine own_setCell ?_ ?_ _); rotate_left; focus (first | (simp; done) | (simp; omega))) | (with_reducible (refine own_trans ?_ (by assumption))))⟩
set_option maxHeartbeats 2000000 in
theorem specMoN_near (p q s t D x y : Int) (h1 : isF p q = true) (h2 : isF s t = true) (hD : detF p q s t = D) (hd : D = 1 ∨ D = -1) (hx : D * s = x) (hy : D * t = y) (w : World) :
    Calls Tryd.prog 31 #[(.agg #[.int .i64 p, .int .i64 q]), (.agg #[.int .i64 s, .int .i64 t])] w fun e w' => e = .returned (.tuple #[(.agg #[.int .i64 p, .int .i64 x, .int .i64 q, .int .i64 y]), (.int .i64 0)]) ∧ Below w.heap.size w w' := by
  have H1 := Lib.hid h1
  have H2 := Lib.hid h2
  have HD := Lib.hid hD
  have HR := Lib.hid (show (decide (D = 1) || decide (D = -1)) = true by rcases hd with rfl | rfl <;> rfl)
  have hE : Ent p ∧ Ent q ∧ Ent s ∧ Ent t := ⟨(isF_ent h1).1, (isF_ent h1).2.1, (isF_ent h2).1, (isF_ent h2).2.1⟩
  have HE := Lib.hid hE
  have m1 := ent_mul hE.1 hE.2.2.2
  have m2 := ent_mul hE.2.1 hE.2.2.1
  have hs := hE.2.2.1
  have ht := hE.2.2.2
  unfold Ent at hs ht
  clear h1 h2
  have HE2 : p * t - q * s = D := hD
  clear hD hE
  rcases hd with rfl | rfl
  · have e1 : (p * t - q * s == 1) = true := by simpa using HE2
    obtain rfl : s = x := by omega
    obtain rfl : t = y := by omega
    clear hx hy HE2
    go_enter Tryd.func31, Tryd.ntmps31
    go_wp2_with fail
    refine (both_yes p q s t H1.out H2.out _).mono ?_
    rintro e w1 ⟨rfl, hb1⟩
    have A1 : Box w1 w.heap.size [.int .i64 p, .int .i64 q] := Box.below (Box.alloc (Box.alloc (Box.new _ _ _) _) _) hb1
    have B1 : Box w1 (w.heap.size + 1) [.int .i64 s, .int .i64 t] := Box.below (Box.alloc (Box.newAt (by simp) _ _) _) hb1
    have Z1 : Box w1 (w.heap.size + 1 + 1) [.int .i64 0, .int .i64 0, .int .i64 0, .int .i64 0] := Box.below (Box.newAt (by simp) _ _) hb1
    obtain ⟨_, _, _, _, _⟩ := A1.two
    obtain ⟨_, _, _, _, _⟩ := B1.two
    go_wp2_with fail
    refine (near_is p q s t 1 HD.out true HR.out HE.out.1 HE.out.2.1 HE.out.2.2.1 HE.out.2.2.2 _).mono ?_
    rintro e w2 ⟨rfl, hb2⟩
    have Z2 := Z1.below hb2
    obtain ⟨_, _, _, _, _, _, _, _, _⟩ := Z2.four
    obtain ⟨_, _, _, _, _⟩ := (A1.below hb2).two
    obtain ⟨_, _, _, _, _⟩ := (B1.below hb2).two
    go_wp2
    obtain ⟨_, d0, d1, d2, d3, _, _, _, _⟩ := (Z2.put4 (.int .i64 p) (.int .i64 s) (.int .i64 q) (.int .i64 t)).four
    exact bodyPost_ret (v := .tuple #[(.agg #[.int .i64 p, .int .i64 s, .int .i64 q, .int .i64 t]), (.int .i64 0)]) (by simp [results, Tryd.results31, go_sem, d0, d1, d2, d3]) rfl ⟨rfl, by repeat (first | with_reducible exact own_refl _ | with_reducible assumption | with_reducible apply own_alloc | with_reducible apply own_drewN | with_reducible apply own_drew | ((with_reducible refine own_setCell ?_ ?_ _); rotate_left; focus (first | (simp; done) | (simp; omega))) | (with_reducible (refine own_trans ?_ (by assumption))))⟩
  · have e1 : (p * t - q * s == 1) = false := by rw [HE2]; rfl
    obtain rfl : -s = x := by omega
    obtain rfl : -t = y := by omega
    clear hx hy HE2
    go_enter Tryd.func31, Tryd.ntmps31
    go_wp2_with fail
    refine (both_yes p q s t H1.out H2.out _).mono ?_
    rintro e w1 ⟨rfl, hb1⟩
    have A1 : Box w1 w.heap.size [.int .i64 p, .int .i64 q] := Box.below (Box.alloc (Box.alloc (Box.new _ _ _) _) _) hb1
    have B1 : Box w1 (w.heap.size + 1) [.int .i64 s, .int .i64 t] := Box.below (Box.alloc (Box.newAt (by simp) _ _) _) hb1
    have Z1 : Box w1 (w.heap.size + 1 + 1) [.int .i64 0, .int .i64 0, .int .i64 0, .int .i64 0] := Box.below (Box.newAt (by simp) _ _) hb1
    obtain ⟨_, _, _, _, _⟩ := A1.two
    obtain ⟨_, _, _, _, _⟩ := B1.two
    go_wp2_with fail
    refine (near_is p q s t (-1) HD.out true HR.out HE.out.1 HE.out.2.1 HE.out.2.2.1 HE.out.2.2.2 _).mono ?_
    rintro e w2 ⟨rfl, hb2⟩
    have Z2 := Z1.below hb2
    obtain ⟨_, _, _, _, _, _, _, _, _⟩ := Z2.four
    obtain ⟨_, _, _, _, _⟩ := (A1.below hb2).two
    obtain ⟨_, _, _, _, _⟩ := (B1.below hb2).two
    go_wp2
    obtain ⟨_, d0, d1, d2, d3, _, _, _, _⟩ := (Z2.put4 (.int .i64 p) (.int .i64 (-s)) (.int .i64 q) (.int .i64 (-t))).four
    exact bodyPost_ret (v := .tuple #[(.agg #[.int .i64 p, .int .i64 (-s), .int .i64 q, .int .i64 (-t)]), (.int .i64 0)]) (by simp [results, Tryd.results31, go_sem, d0, d1, d2, d3]) rfl ⟨rfl, by repeat (first | with_reducible exact own_refl _ | with_reducible assumption | with_reducible apply own_alloc | with_reducible apply own_drewN | with_reducible apply own_drew | ((with_reducible refine own_setCell ?_ ?_ _); rotate_left; focus (first | (simp; done) | (simp; omega))) | (with_reducible (refine own_trans ?_ (by assumption))))⟩
end Go.Proofs.YteknmpnkjoopfaaDoor
