/- Mediants: contracts of both sides. -/
import Derived.Test.YteknmpnkjoopfaaDoorDet
import Derived.Test.YteknmpnkjoopfaaDoorDoorF
namespace Go.Proofs.YteknmpnkjoopfaaDoor
open Go.ChangeShapes Go.WideShapes Go.ChangeAt Go.RowKit

theorem implLow_to (p q x y : Int) (hx : lowP p q = x) (hy : lowQ p q = y) (hp : Mid p) (hq : Mid q) (h : ¬ (p = 0 ∧ q = 0)) (w : World) :
    Calls Tryd.prog 69 #[(.int .i64 p), (.int .i64 q)] w fun e w' => e = .returned (.agg #[.int .i64 x, .int .i64 y]) ∧ Below w.heap.size w w' := hx ▸ hy ▸ implLow_any p q hp hq h w
theorem specLow_to (p q x y : Int) (hx : lowP p q = x) (hy : lowQ p q = y) (hp : Mid p) (hq : Mid q) (h : ¬ (p = 0 ∧ q = 0)) (w : World) :
    Calls Tryd.prog 89 #[(.int .i64 p), (.int .i64 q)] w fun e w' => e = .returned (.agg #[.int .i64 x, .int .i64 y]) ∧ Below w.heap.size w w' := hx ▸ hy ▸ specLow_any p q hp hq h w
theorem med_facts {p q s t : Int} (h1 : isF p q = true) (h2 : isF s t = true) : Mid (p + s) ∧ Mid (q + t) ∧ ¬ (p + s = 0 ∧ q + t = 0) := by
  obtain ⟨a1, a2, a3, _, a4⟩ := isF_ent h1
  obtain ⟨b1, b2, b3, _, b4⟩ := isF_ent h2
  unfold Ent at a1 a2 b1 b2
  unfold Mid
  omega
theorem entry_of (r : Bool) (x : Int) (h : inW x 1000000000 = r) (w : World) :
    Calls Tryd.prog 66 #[(.int .i64 x)] w fun e w' => e = .returned (.bool r) ∧ w = w' := h ▸ l01Entry_any x w

/-- What a mediant gives: itself or the limit. -/
def medX (r : Bool) (x : Int) : Int := if r then x else 0
def medK (r : Bool) : Int := if r then 0 else 3

set_option maxHeartbeats 1000000 in
theorem medClo_yes (r : Bool) (g1 g2 : Nat) (p q s t x y : Int) (h1 : isF p q = true) (h2 : isF s t = true) (hx : lowP (p + s) (q + t) = x) (hy : lowQ (p + s) (q + t) = y) (hr : allW [x, y] 1000000000 = r)
    (w : World) (B1 : Box w g1 [.int .i64 p, .int .i64 q]) (B2 : Box w g2 [.int .i64 s, .int .i64 t]) :
    Calls Tryd.prog 68 #[.pointer (some ⟨g1, 0, none⟩), .pointer (some ⟨g2, 0, none⟩)] w fun e w' => e = .returned (.tuple #[(.agg #[.int .i64 (medX r x), .int .i64 (medX r y)]), (.int .i64 (medK r))]) ∧ Below w.heap.size w w' := by
  have H1 := Lib.hid h1
  have H2 := Lib.hid h2
  have HX := Lib.hid hx
  have HY := Lib.hid hy
  have HM := Lib.hid (med_facts h1 h2)
  have HR := Lib.hid hr
  obtain ⟨⟨_, _⟩, ⟨_, _⟩, _⟩ := isF_ent h1
  obtain ⟨⟨_, _⟩, ⟨_, _⟩, _⟩ := isF_ent h2
  clear h1 h2 hx hy hr
  obtain ⟨_, _, _, _, _⟩ := B1.two
  obtain ⟨_, _, _, _, _⟩ := B2.two
  go_enter Tryd.func68, Tryd.ntmps68
  go_wp2_with fail
  refine (must2_yes _ p q s t H1.out H2.out _ (Box.newAt (by simp) _ _)).mono ?_
  rintro e w1 ⟨rfl, hb1⟩
  have T1 : Below w.heap.size w w1 := by repeat (first | with_reducible exact own_refl _ | with_reducible assumption | with_reducible apply own_alloc | with_reducible apply own_drewN | with_reducible apply own_drew | ((with_reducible refine own_setCell ?_ ?_ _); rotate_left; focus (first | (simp; done) | (simp; omega))) | (with_reducible (refine own_trans ?_ (by assumption))))
  have Z1 : Box w1 w.heap.size [.int .i64 0, .int .i64 0] := Box.below (Box.alloc (Box.new _ _ _) _) hb1
  obtain ⟨_, _, _, _, _⟩ := (B1.below T1).two
  obtain ⟨_, _, _, _, _⟩ := (B2.below T1).two
  go_wp2_with fail
  refine (implLow_to (p + s) (q + t) x y HX.out HY.out HM.out.1 HM.out.2.1 HM.out.2.2 _).mono ?_
  rintro e w2 ⟨rfl, hb2⟩
  have Z2 := Z1.below hb2
  obtain ⟨_, _, _, _, _⟩ := Z2.two
  have hz2 : ¬ (w2.heap.size = w.heap.size) := Nat.ne_of_gt Z2.1
  go_wp2_with fail
  refine (allW2_is r _ _ _ _ HR.out (by simp) (by simp)).mono ?_
  rintro e w3 ⟨rfl, rfl⟩
  clear HR
  cases r
  · go_wp2
    obtain ⟨d0, d1⟩ : _ ∧ _ := ⟨((Z2.put2 (.int .i64 0) (.int .i64 0)).alloc (.cells #[.int .i64 x, .int .i64 y] 41)).two.2.1, ((Z2.put2 (.int .i64 0) (.int .i64 0)).alloc (.cells #[.int .i64 x, .int .i64 y] 41)).two.2.2.1⟩
    exact bodyPost_ret (v := .tuple #[(.agg #[.int .i64 0, .int .i64 0]), (.int .i64 3)]) (by simp [results, Tryd.results68, go_sem, d0, d1]) rfl ⟨rfl, by repeat (first | with_reducible exact own_refl _ | with_reducible assumption | with_reducible apply own_alloc | with_reducible apply own_drewN | with_reducible apply own_drew | ((with_reducible refine own_setCell ?_ ?_ _); rotate_left; focus (first | (simp; done) | (simp; omega))) | (with_reducible (refine own_trans ?_ (by assumption))))⟩
  · go_wp2
    obtain ⟨d0, d1⟩ : _ ∧ _ := ⟨((Z2.put2 (.int .i64 x) (.int .i64 y)).alloc (.cells #[.int .i64 x, .int .i64 y] 41)).two.2.1, ((Z2.put2 (.int .i64 x) (.int .i64 y)).alloc (.cells #[.int .i64 x, .int .i64 y] 41)).two.2.2.1⟩
    exact bodyPost_ret (v := .tuple #[(.agg #[.int .i64 x, .int .i64 y]), (.int .i64 0)]) (by simp [results, Tryd.results68, go_sem, d0, d1]) rfl ⟨rfl, by repeat (first | with_reducible exact own_refl _ | with_reducible assumption | with_reducible apply own_alloc | with_reducible apply own_drewN | with_reducible apply own_drew | ((with_reducible refine own_setCell ?_ ?_ _); rotate_left; focus (first | (simp; done) | (simp; omega))) | (with_reducible (refine own_trans ?_ (by assumption))))⟩
set_option maxHeartbeats 1000000 in
theorem medClo_no (g1 g2 : Nat) (p q s t : Int) (h : ¬ (isF p q = true ∧ isF s t = true)) (a : Addr) (w : World) (B1 : Box w g1 [.int .i64 p, .int .i64 q]) (B2 : Box w g2 [.int .i64 s, .int .i64 t]) (hE : Er w a) :
    Calls Tryd.prog 68 #[.pointer (some ⟨g1, 0, none⟩), .pointer (some ⟨g2, 0, none⟩)] w fun e w' => e = errPanic a ∧ Below w.heap.size w w' := by
  have H := Lib.hid h
  have HE := Lib.hid hE
  clear h hE
  obtain ⟨_, _, _, _, _⟩ := B1.two
  obtain ⟨_, _, _, _, _⟩ := B2.two
  go_enter Tryd.func68, Tryd.ntmps68
  go_wp2_with fail
  refine (must2_no _ p q s t H.out a _ (Box.newAt (by simp) _ _) ((HE.out.alloc _).alloc _)).mono ?_
  unfold errPanic
  rintro e w1 ⟨rfl, hb1⟩
  go_wp2
  exact ⟨rfl, rfl, by repeat (first | with_reducible exact own_refl _ | with_reducible assumption | with_reducible apply own_alloc | with_reducible apply own_drewN | with_reducible apply own_drew | ((with_reducible refine own_setCell ?_ ?_ _); rotate_left; focus (first | (simp; done) | (simp; omega))) | (with_reducible (refine own_trans ?_ (by assumption))))⟩
set_option maxHeartbeats 1000000 in
theorem implMed_yes (r : Bool) (p q s t x y : Int) (h1 : isF p q = true) (h2 : isF s t = true) (hx : lowP (p + s) (q + t) = x) (hy : lowQ (p + s) (q + t) = y) (hr : allW [x, y] 1000000000 = r) (w : World) :
    Calls Tryd.prog 29 #[(.agg #[.int .i64 p, .int .i64 q]), (.agg #[.int .i64 s, .int .i64 t])] w fun e w' => e = .returned (.tuple #[(.agg #[.int .i64 (medX r x), .int .i64 (medX r y)]), (.int .i64 (medK r))]) ∧ Below w.heap.size w w' := by
  have hmf : ∀ (fn : Fn) (first cap : Array Value) (w : World), (Instr.makeFunc fn first cap).run Tryd.prog w = .ok (.func fn first cap) w := fun _ _ _ _ => rfl
  have H1 := Lib.hid h1
  have H2 := Lib.hid h2
  have HX := Lib.hid hx
  have HY := Lib.hid hy
  have HR := Lib.hid hr
  clear h1 h2 hx hy hr
  go_enter Tryd.func29, Tryd.ntmps29
  go_wp2_with fail
  refine (doorF_yes _ _ (medX r x) (medX r y) (medK r) _ (fun _ => by kernel_rfl) (fun w0 hb0 => medClo_yes r w.heap.size (w.heap.size + 1) p q s t x y H1.out H2.out HX.out HY.out HR.out w0 ((((Box.new _ _ _).alloc _).alloc _).below hb0) (((Box.newAt (by simp) _ _).alloc _).below hb0))).mono ?_
  rintro e w1 ⟨rfl, hb1⟩
  have Z1 : Box w1 (w.heap.size + 1 + 1) [.int .i64 0, .int .i64 0] := Box.below (Box.newAt (by simp) _ _) hb1
  obtain ⟨_, _, _, _, _⟩ := Z1.two
  go_wp2
  obtain ⟨_, d1, d2⟩ := Z1.reads2 (.int .i64 (medX r x)) (.int .i64 (medX r y))
  exact bodyPost_ret (v := .tuple #[(.agg #[.int .i64 (medX r x), .int .i64 (medX r y)]), (.int .i64 (medK r))]) (by simp [results, Tryd.results29, go_sem, d1, d2]) rfl ⟨rfl, by repeat (first | with_reducible exact own_refl _ | with_reducible assumption | with_reducible apply own_alloc | with_reducible apply own_drewN | with_reducible apply own_drew | ((with_reducible refine own_setCell ?_ ?_ _); rotate_left; focus (first | (simp; done) | (simp; omega))) | (with_reducible (refine own_trans ?_ (by assumption))))⟩
set_option maxHeartbeats 1000000 in
theorem implMed_no (p q s t : Int) (h : ¬ (isF p q = true ∧ isF s t = true)) (a : Addr) (w : World) (hE : Er w a) :
    Calls Tryd.prog 29 #[(.agg #[.int .i64 p, .int .i64 q]), (.agg #[.int .i64 s, .int .i64 t])] w fun e w' => e = .returned (.tuple #[(.agg #[.int .i64 0, .int .i64 0]), (.int .i64 1)]) ∧ Below w.heap.size w w' := by
  have hmf : ∀ (fn : Fn) (first cap : Array Value) (w : World), (Instr.makeFunc fn first cap).run Tryd.prog w = .ok (.func fn first cap) w := fun _ _ _ _ => rfl
  have H := Lib.hid h
  have HE := Lib.hid hE
  clear h hE
  go_enter Tryd.func29, Tryd.ntmps29
  go_wp2_with fail
  refine (doorF_no _ _ a _ (fun _ => by kernel_rfl) (fun w0 hb0 => medClo_no w.heap.size (w.heap.size + 1) p q s t H.out a w0 ((((Box.new _ _ _).alloc _).alloc _).below hb0) (((Box.newAt (by simp) _ _).alloc _).below hb0) ((((HE.out.alloc _).alloc _).alloc _).below hb0))).mono ?_
  rintro e w1 ⟨rfl, hb1⟩
  have Z1 : Box w1 (w.heap.size + 1 + 1) [.int .i64 0, .int .i64 0] := Box.below (Box.newAt (by simp) _ _) hb1
  obtain ⟨_, _, _, _, _⟩ := Z1.two
  go_wp2
  obtain ⟨_, d1, d2⟩ := Z1.reads2 (.int .i64 0) (.int .i64 0)
  exact bodyPost_ret (v := .tuple #[(.agg #[.int .i64 0, .int .i64 0]), (.int .i64 1)]) (by simp [results, Tryd.results29, go_sem, d1, d2]) rfl ⟨rfl, by repeat (first | with_reducible exact own_refl _ | with_reducible assumption | with_reducible apply own_alloc | with_reducible apply own_drewN | with_reducible apply own_drew | ((with_reducible refine own_setCell ?_ ?_ _); rotate_left; focus (first | (simp; done) | (simp; omega))) | (with_reducible (refine own_trans ?_ (by assumption))))⟩

set_option maxHeartbeats 1000000 in
theorem l03Med_to (p q s t x y : Int) (h1 : isF p q = true) (h2 : isF s t = true) (hx : lowP (p + s) (q + t) = x) (hy : lowQ (p + s) (q + t) = y) (w : World) :
    Calls Tryd.prog 65 #[(.agg #[.int .i64 p, .int .i64 q]), (.agg #[.int .i64 s, .int .i64 t])] w fun e w' => e = .returned (.agg #[.int .i64 x, .int .i64 y]) ∧ Below w.heap.size w w' := by
  have HX := Lib.hid hx
  have HY := Lib.hid hy
  have HM := Lib.hid (med_facts h1 h2)
  obtain ⟨⟨_, _⟩, ⟨_, _⟩, _⟩ := isF_ent h1
  obtain ⟨⟨_, _⟩, ⟨_, _⟩, _⟩ := isF_ent h2
  clear h1 h2 hx hy
  go_enter Tryd.func65, Tryd.ntmps65
  go_wp2_with fail
  refine (specLow_to (p + s) (q + t) x y HX.out HY.out HM.out.1 HM.out.2.1 HM.out.2.2 _).mono ?_
  rintro e w1 ⟨rfl, hb1⟩
  have Z1 : Box w1 (w.heap.size + 1 + 1) [.int .i64 0, .int .i64 0] := Box.below (Box.newAt (by simp) _ _) hb1
  obtain ⟨_, _, _, _, _⟩ := Z1.two
  go_wp2
  obtain ⟨_, d1, d2⟩ := Z1.reads2 (.int .i64 x) (.int .i64 y)
  exact bodyPost_ret (v := (.agg #[.int .i64 x, .int .i64 y])) (by simp [results, Tryd.results65, go_sem, d1, d2]) rfl ⟨rfl, by repeat (first | with_reducible exact own_refl _ | with_reducible assumption | with_reducible apply own_alloc | with_reducible apply own_drewN | with_reducible apply own_drew | ((with_reducible refine own_setCell ?_ ?_ _); rotate_left; focus (first | (simp; done) | (simp; omega))) | (with_reducible (refine own_trans ?_ (by assumption))))⟩
set_option maxHeartbeats 1000000 in
theorem specMed_no (p q s t : Int) (h : ¬ (isF p q = true ∧ isF s t = true)) (w : World) :
    Calls Tryd.prog 28 #[(.agg #[.int .i64 p, .int .i64 q]), (.agg #[.int .i64 s, .int .i64 t])] w fun e w' => e = .returned (.tuple #[(.agg #[.int .i64 0, .int .i64 0]), (.int .i64 1)]) ∧ Below w.heap.size w w' := by
  have H := Lib.hid h
  clear h
  go_enter Tryd.func28, Tryd.ntmps28
  go_wp2_with fail
  refine (both_no p q s t H.out _).mono ?_
  rintro e w1 ⟨rfl, hb1⟩
  have Z1 : Box w1 (w.heap.size + 1 + 1) [.int .i64 0, .int .i64 0] := Box.below (Box.newAt (by simp) _ _) hb1
  obtain ⟨_, _, _, _, _⟩ := Z1.two
  go_wp2
  obtain ⟨_, d1, d2⟩ := Z1.reads2 (.int .i64 0) (.int .i64 0)
  exact bodyPost_ret (v := .tuple #[(.agg #[.int .i64 0, .int .i64 0]), (.int .i64 1)]) (by simp [results, Tryd.results28, go_sem, d1, d2]) rfl ⟨rfl, by repeat (first | with_reducible exact own_refl _ | with_reducible assumption | with_reducible apply own_alloc | with_reducible apply own_drewN | with_reducible apply own_drew | ((with_reducible refine own_setCell ?_ ?_ _); rotate_left; focus (first | (simp; done) | (simp; omega))) | (with_reducible (refine own_trans ?_ (by assumption))))⟩
set_option maxHeartbeats 1000000 in
theorem specMed_yes (r1 r2 : Bool) (p q s t x y : Int) (h1 : isF p q = true) (h2 : isF s t = true) (hx : lowP (p + s) (q + t) = x) (hy : lowQ (p + s) (q + t) = y) (hr1 : inW x 1000000000 = r1) (hr2 : inW y 1000000000 = r2) (w : World) :
    Calls Tryd.prog 28 #[(.agg #[.int .i64 p, .int .i64 q]), (.agg #[.int .i64 s, .int .i64 t])] w fun e w' => e = .returned (.tuple #[(.agg #[.int .i64 (medX (r1 && r2) x), .int .i64 (medX (r1 && r2) y)]), (.int .i64 (medK (r1 && r2)))]) ∧ Below w.heap.size w w' := by
  have H1 := Lib.hid h1
  have H2 := Lib.hid h2
  have HX := Lib.hid hx
  have HY := Lib.hid hy
  have HR1 := Lib.hid hr1
  have HR2 := Lib.hid hr2
  clear h1 h2 hx hy hr1 hr2
  go_enter Tryd.func28, Tryd.ntmps28
  go_wp2_with fail
  refine (both_yes p q s t H1.out H2.out _).mono ?_
  rintro e w1 ⟨rfl, hb1⟩
  have A1 : Box w1 w.heap.size [.int .i64 p, .int .i64 q] := Box.below (Box.alloc (Box.alloc (Box.new _ _ _) _) _) hb1
  have B1 : Box w1 (w.heap.size + 1) [.int .i64 s, .int .i64 t] := Box.below (Box.alloc (Box.newAt (by simp) _ _) _) hb1
  have Z1 : Box w1 (w.heap.size + 1 + 1) [.int .i64 0, .int .i64 0] := Box.below (Box.newAt (by simp) _ _) hb1
  obtain ⟨_, _, _, _, _⟩ := A1.two
  obtain ⟨_, _, _, _, _⟩ := B1.two
  go_wp2_with fail
  refine (l03Med_to p q s t x y H1.out H2.out HX.out HY.out _).mono ?_
  rintro e w2 ⟨rfl, hb2⟩
  have Z2 := Z1.below hb2
  obtain ⟨_, _, _, _, _⟩ := Z2.two
  have hz2 : ¬ (w2.heap.size = w.heap.size + 1 + 1) := Nat.ne_of_gt Z2.1
  go_wp2_with fail
  refine (entry_of r1 x HR1.out _).mono ?_
  rintro e w3 ⟨rfl, rfl⟩
  clear HR1
  cases r1
  · go_wp2
    obtain ⟨d0, d1⟩ : _ ∧ _ := ⟨((Z2.put2 (.int .i64 0) (.int .i64 0)).alloc (.cells #[.int .i64 x, .int .i64 y] 41)).two.2.1, ((Z2.put2 (.int .i64 0) (.int .i64 0)).alloc (.cells #[.int .i64 x, .int .i64 y] 41)).two.2.2.1⟩
    exact bodyPost_ret (v := .tuple #[(.agg #[.int .i64 0, .int .i64 0]), (.int .i64 3)]) (by simp [results, Tryd.results28, go_sem, d0, d1]) rfl ⟨rfl, by repeat (first | with_reducible exact own_refl _ | with_reducible assumption | with_reducible apply own_alloc | with_reducible apply own_drewN | with_reducible apply own_drew | ((with_reducible refine own_setCell ?_ ?_ _); rotate_left; focus (first | (simp; done) | (simp; omega))) | (with_reducible (refine own_trans ?_ (by assumption))))⟩
  · go_wp2_with fail
    refine (entry_of r2 y HR2.out _).mono ?_
    rintro e w4 ⟨rfl, rfl⟩
    clear HR2
    cases r2
    · go_wp2
      obtain ⟨d0, d1⟩ : _ ∧ _ := ⟨((Z2.put2 (.int .i64 0) (.int .i64 0)).alloc (.cells #[.int .i64 x, .int .i64 y] 41)).two.2.1, ((Z2.put2 (.int .i64 0) (.int .i64 0)).alloc (.cells #[.int .i64 x, .int .i64 y] 41)).two.2.2.1⟩
      exact bodyPost_ret (v := .tuple #[(.agg #[.int .i64 0, .int .i64 0]), (.int .i64 3)]) (by simp [results, Tryd.results28, go_sem, d0, d1]) rfl ⟨rfl, by repeat (first | with_reducible exact own_refl _ | with_reducible assumption | with_reducible apply own_alloc | with_reducible apply own_drewN | with_reducible apply own_drew | ((with_reducible refine own_setCell ?_ ?_ _); rotate_left; focus (first | (simp; done) | (simp; omega))) | (with_reducible (refine own_trans ?_ (by assumption))))⟩
    · go_wp2
      obtain ⟨d0, d1⟩ : _ ∧ _ := ⟨((Z2.put2 (.int .i64 x) (.int .i64 y)).alloc (.cells #[.int .i64 x, .int .i64 y] 41)).two.2.1, ((Z2.put2 (.int .i64 x) (.int .i64 y)).alloc (.cells #[.int .i64 x, .int .i64 y] 41)).two.2.2.1⟩
      exact bodyPost_ret (v := .tuple #[(.agg #[.int .i64 x, .int .i64 y]), (.int .i64 0)]) (by simp [results, Tryd.results28, go_sem, d0, d1]) rfl ⟨rfl, by repeat (first | with_reducible exact own_refl _ | with_reducible assumption | with_reducible apply own_alloc | with_reducible apply own_drewN | with_reducible apply own_drew | ((with_reducible refine own_setCell ?_ ?_ _); rotate_left; focus (first | (simp; done) | (simp; omega))) | (with_reducible (refine own_trans ?_ (by assumption))))⟩
end Go.Proofs.YteknmpnkjoopfaaDoor
