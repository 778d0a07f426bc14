/- SawTooth: contracts of both sides. -/
import Derived.Test.YthggpcdbnopabaaDsD
import Derived.Test.YthggpcdbnopabaaIsF
namespace Go.Proofs.Ythggpcdbnopabaa
open Go.ChangeShapes Go.WideShapes Go.ChangeAt Go.RowKit

theorem isF_bd {p q : Int} (h : isF p q = true) : Ent p ∧ 0 ≤ q ∧ q ≤ 1000000000 ∧ Int.gcd p q = 1 ∧ (0 < q ∨ p = 1) := of_decide_eq_true h
theorem implIsF_is (r : Bool) (p q : Int) (h : isF p q = r) (w : World) :
    Calls Try.prog 42 #[(.agg #[.int .i64 p, .int .i64 q])] w fun e w' => e = .returned (.bool r) ∧ Below w.heap.size w w' := h ▸ implIsF_any p q w
theorem l01Fraction_is (r : Bool) (p q : Int) (h : isF p q = r) (w : World) :
    Calls Try.prog 46 #[(.agg #[.int .i64 p, .int .i64 q])] w fun e w' => e = .returned (.bool r) ∧ Below w.heap.size w w' := h ▸ l01Fraction_any p q w
/-- in lowest terms, and not whole: the rest is not 0 -/
theorem rst_pos {p q : Int} (hq : 1 < q) (hg : Int.gcd p q = 1) : rst p q ≠ 0 := fun h0 => by
  have h1 := rst_emod p q (by omega)
  rw [h0] at h1
  have h2 : q ∣ p := Int.dvd_of_emod_eq_zero h1.symm
  have h3 : q.natAbs ∣ Int.gcd p q := Nat.dvd_gcd (Int.natAbs_dvd_natAbs.2 h2) (Nat.dvd_refl _)
  rw [hg] at h3
  have := Nat.le_of_dvd (by omega) h3
  omega
theorem implSaw_no (p q : Int) (h : isF p q = false) (w : World) :
    Calls Try.prog 24 #[(.agg #[.int .i64 p, .int .i64 q])] w fun e w' => e = .returned (.tuple #[(.agg #[.int .i64 0, .int .i64 0]), (.int .i64 1)]) ∧ Below w.heap.size w w' := by
  have H := Lib.hid h
  clear h
  go_enter Try.func24, Try.ntmps24
  go_wp2_with fail
  refine (implIsF_is false _ _ H.out _).mono ?_
  rintro e w1 ⟨rfl, hb1⟩
  have Z1 : Box w1 (w.heap.size + 1) [.int .i64 0, .int .i64 0] := Box.below (Box.newAt (by simp) _ _) hb1
  obtain ⟨_, _, _, _, _⟩ := Z1.two
  go_wp2
  obtain ⟨_, d1, d2⟩ := Z1.reads2d (.int .i64 0) (.int .i64 0)
  exact bodyPost_ret (v := .tuple #[(.agg #[.int .i64 0, .int .i64 0]), (.int .i64 1)]) (by simp [results, Try.results24, go_sem, d1, d2]) rfl ⟨rfl, by repeat (first | with_reducible exact own_refl _ | with_reducible assumption | with_reducible apply own_alloc | with_reducible apply own_drewN | with_reducible apply own_drew | ((with_reducible refine own_setCell ?_ ?_ _); rotate_left; focus (first | (simp; done) | (simp; omega))) | (with_reducible (refine own_trans ?_ (by assumption))))⟩
theorem specSaw_no (p q : Int) (h : isF p q = false) (w : World) :
    Calls Try.prog 25 #[(.agg #[.int .i64 p, .int .i64 q])] w fun e w' => e = .returned (.tuple #[(.agg #[.int .i64 0, .int .i64 0]), (.int .i64 1)]) ∧ Below w.heap.size w w' := by
  have H := Lib.hid h
  clear h
  go_enter Try.func25, Try.ntmps25
  go_wp2_with fail
  refine (l01Fraction_is false _ _ H.out _).mono ?_
  rintro e w1 ⟨rfl, hb1⟩
  have Z1 : Box w1 (w.heap.size + 1) [.int .i64 0, .int .i64 0] := Box.below (Box.newAt (by simp) _ _) hb1
  obtain ⟨_, _, _, _, _⟩ := Z1.two
  go_wp2
  obtain ⟨_, d1, d2⟩ := Z1.reads2d (.int .i64 0) (.int .i64 0)
  exact bodyPost_ret (v := .tuple #[(.agg #[.int .i64 0, .int .i64 0]), (.int .i64 1)]) (by simp [results, Try.results25, go_sem, d1, d2]) rfl ⟨rfl, by repeat (first | with_reducible exact own_refl _ | with_reducible assumption | with_reducible apply own_alloc | with_reducible apply own_drewN | with_reducible apply own_drew | ((with_reducible refine own_setCell ?_ ?_ _); rotate_left; focus (first | (simp; done) | (simp; omega))) | (with_reducible (refine own_trans ?_ (by assumption))))⟩
theorem implSaw_inf (p : Int) (h : isF p 0 = true) (w : World) :
    Calls Try.prog 24 #[(.agg #[.int .i64 p, .int .i64 0])] w fun e w' => e = .returned (.tuple #[(.agg #[.int .i64 0, .int .i64 0]), (.int .i64 5)]) ∧ Below w.heap.size w w' := by
  have H := Lib.hid h
  clear h
  go_enter Try.func24, Try.ntmps24
  go_wp2_with fail
  refine (implIsF_is true _ _ H.out _).mono ?_
  rintro e w1 ⟨rfl, hb1⟩
  have B1 : Box w1 w.heap.size [.int .i64 p, .int .i64 0] := Box.below ((Box.new _ _ _).alloc _) hb1
  have Z1 : Box w1 (w.heap.size + 1) [.int .i64 0, .int .i64 0] := Box.below (Box.newAt (by simp) _ _) hb1
  obtain ⟨_, _, _, _, _⟩ := B1.two
  obtain ⟨_, _, _, _, _⟩ := Z1.two
  go_wp2
  go_quiet (fail)
  go_wp2
  obtain ⟨_, d1, d2⟩ := (Z1.drewN nq).reads2d (.int .i64 0) (.int .i64 0)
  exact bodyPost_ret (v := .tuple #[(.agg #[.int .i64 0, .int .i64 0]), (.int .i64 5)]) (by simp [results, Try.results24, go_sem, d1, d2]) rfl ⟨rfl, by repeat (first | with_reducible exact own_refl _ | with_reducible assumption | with_reducible apply own_alloc | with_reducible apply own_drewN | with_reducible apply own_drew | ((with_reducible refine own_setCell ?_ ?_ _); rotate_left; focus (first | (simp; done) | (simp; omega))) | (with_reducible (refine own_trans ?_ (by assumption))))⟩
theorem specSaw_inf (p : Int) (h : isF p 0 = true) (w : World) :
    Calls Try.prog 25 #[(.agg #[.int .i64 p, .int .i64 0])] w fun e w' => e = .returned (.tuple #[(.agg #[.int .i64 0, .int .i64 0]), (.int .i64 5)]) ∧ Below w.heap.size w w' := by
  have H := Lib.hid h
  clear h
  go_enter Try.func25, Try.ntmps25
  go_wp2_with fail
  refine (l01Fraction_is true _ _ H.out _).mono ?_
  rintro e w1 ⟨rfl, hb1⟩
  have B1 : Box w1 w.heap.size [.int .i64 p, .int .i64 0] := Box.below ((Box.new _ _ _).alloc _) hb1
  have Z1 : Box w1 (w.heap.size + 1) [.int .i64 0, .int .i64 0] := Box.below (Box.newAt (by simp) _ _) hb1
  obtain ⟨_, _, _, _, _⟩ := B1.two
  obtain ⟨_, _, _, _, _⟩ := Z1.two
  go_wp2
  obtain ⟨_, d1, d2⟩ := Z1.reads2d (.int .i64 0) (.int .i64 0)
  exact bodyPost_ret (v := .tuple #[(.agg #[.int .i64 0, .int .i64 0]), (.int .i64 5)]) (by simp [results, Try.results25, go_sem, d1, d2]) rfl ⟨rfl, by repeat (first | with_reducible exact own_refl _ | with_reducible assumption | with_reducible apply own_alloc | with_reducible apply own_drewN | with_reducible apply own_drew | ((with_reducible refine own_setCell ?_ ?_ _); rotate_left; focus (first | (simp; done) | (simp; omega))) | (with_reducible (refine own_trans ?_ (by assumption))))⟩
theorem specSaw_one (p : Int) (h : isF p 1 = true) (w : World) :
    Calls Try.prog 25 #[(.agg #[.int .i64 p, .int .i64 1])] w fun e w' => e = .returned (.tuple #[(.agg #[.int .i64 0, .int .i64 1]), (.int .i64 0)]) ∧ Below w.heap.size w w' := by
  have H := Lib.hid h
  clear h
  go_enter Try.func25, Try.ntmps25
  go_wp2_with fail
  refine (l01Fraction_is true _ _ H.out _).mono ?_
  rintro e w1 ⟨rfl, hb1⟩
  have B1 : Box w1 w.heap.size [.int .i64 p, .int .i64 1] := Box.below ((Box.new _ _ _).alloc _) hb1
  have Z1 : Box w1 (w.heap.size + 1) [.int .i64 0, .int .i64 0] := Box.below (Box.newAt (by simp) _ _) hb1
  obtain ⟨_, _, _, _, _⟩ := B1.two
  obtain ⟨_, _, _, _, _⟩ := Z1.two
  go_wp2
  obtain ⟨_, d1, d2⟩ := Z1.reads2d (.int .i64 0) (.int .i64 1)
  exact bodyPost_ret (v := .tuple #[(.agg #[.int .i64 0, .int .i64 1]), (.int .i64 0)]) (by simp [results, Try.results25, go_sem, d1, d2]) rfl ⟨rfl, by repeat (first | with_reducible exact own_refl _ | with_reducible assumption | with_reducible apply own_alloc | with_reducible apply own_drewN | with_reducible apply own_drew | ((with_reducible refine own_setCell ?_ ?_ _); rotate_left; focus (first | (simp; done) | (simp; omega))) | (with_reducible (refine own_trans ?_ (by assumption))))⟩
/-- what both sides give where there is a saw tooth: itself or the limit -/
def sawX (r : Bool) (x : Int) : Int := if r then x else 0
def sawK (r : Bool) : Int := if r then 0 else 3
set_option maxHeartbeats 2000000 in
theorem implSaw_yes (r : Bool) (p q x y : Int) (h : isF p q = true) (hq : 0 < q) (hx : lowP (tth q (rst p q)) (2 * q) = x) (hy : lowQ (tth q (rst p q)) (2 * q) = y) (hr : allW [x, y] 1000000000 = r) (w : World) :
    Calls Try.prog 24 #[(.agg #[.int .i64 p, .int .i64 q])] w fun e w' => e = .returned (.tuple #[(.agg #[.int .i64 (sawX r x), .int .i64 (sawX r y)]), (.int .i64 (sawK r))]) ∧ Below w.heap.size w w' := by
  obtain ⟨ep, _, q2, _, _⟩ := isF_bd h
  have r1 := rst_bd (x := p) (n := q) (by omega)
  have t1 := tth_bd r1.1 r1.2
  have H := Lib.hid h
  have HM := Lib.hid (fun w => restOf_big p q (by omega) q2 (ent_i64 ep) w)
  have HT := Lib.hid (fun w => toothOf_any (rst p q) q r1.1 r1.2 q2 w)
  have HL := Lib.hid (fun w => implLow_at _ _ x y hx hy (by unfold Mid; omega) (by unfold Mid; omega) (by omega) w)
  have HR := Lib.hid hr
  have hq0 : (q == 0) = false := by simp; omega
  clear h hx hy hr r1 t1 ep
  generalize rst p q = s at *
  generalize tth q s = t at *
  go_enter Try.func24, Try.ntmps24
  go_wp2_with fail
  refine (implIsF_is true _ _ H.out _).mono ?_
  rintro e w1 ⟨rfl, hb1⟩
  have T1 : Below w.heap.size w w1 := by repeat (first | with_reducible exact own_refl _ | with_reducible assumption | with_reducible apply own_alloc | with_reducible apply own_drewN | with_reducible apply own_drew | ((with_reducible refine own_setCell ?_ ?_ _); rotate_left; focus (first | (simp; done) | (simp; omega))) | (with_reducible (refine own_trans ?_ (by assumption))))
  have B1 : Box w1 w.heap.size [.int .i64 p, .int .i64 q] := Box.below ((Box.new _ _ _).alloc _) hb1
  have Z1 : Box w1 (w.heap.size + 1) [.int .i64 0, .int .i64 0] := Box.below (Box.newAt (by simp) _ _) hb1
  clear hb1
  obtain ⟨_, _, _, _, _⟩ := B1.two
  go_wp2
  go_quiet (fail)
  go_wp2_with fail
  refine (HM.out _).mono ?_
  rintro e w2 ⟨rfl, rfl⟩
  go_wp2_with fail
  refine (HT.out _).mono ?_
  rintro e w2 ⟨rfl, rfl⟩
  go_wp2_with fail
  refine (HL.out _).mono ?_
  rintro e w3 ⟨rfl, hb3⟩
  have T3 : Below w.heap.size w w3 := own_trans (own_drewN T1 nq) hb3
  have Z3 : Box w3 (w.heap.size + 1) [.int .i64 0, .int .i64 0] := Box.below (Z1.drewN nq) hb3
  have BX : Box (w3.alloc (.cells #[.int .i64 x, .int .i64 y] 27)) w3.heap.size [.int .i64 x, .int .i64 y] := Box.new _ _ _
  have Z4 := Z3.alloc (.cells #[.int .i64 x, .int .i64 y] 27)
  obtain ⟨_, _, _, _, _⟩ := BX.two
  obtain ⟨_, _, _, _, _⟩ := Z4.two
  have hne : ¬ (w3.heap.size = w.heap.size + 1) := Nat.ne_of_gt Z3.1
  go_wp2_with fail
  refine (allW2_is r x y w3.heap.size _ HR.out (by assumption) (by assumption)).mono ?_
  rintro e w4 ⟨rfl, rfl⟩
  clear HR
  cases r
  · go_wp2
    obtain ⟨_, d1, d2⟩ := Z4.reads2d (.int .i64 0) (.int .i64 0)
    exact bodyPost_ret (v := .tuple #[(.agg #[.int .i64 0, .int .i64 0]), (.int .i64 3)]) (by simp [results, Try.results24, go_sem, d1, d2]) rfl ⟨rfl, by repeat (first | with_reducible exact own_refl _ | with_reducible assumption | with_reducible apply own_alloc | with_reducible apply own_drewN | with_reducible apply own_drew | ((with_reducible refine own_setCell ?_ ?_ _); rotate_left; focus (first | (simp; done) | (simp; omega))) | (with_reducible (refine own_trans ?_ (by assumption))))⟩
  · go_wp2
    obtain ⟨_, d1, d2⟩ := Z4.reads2d (.int .i64 x) (.int .i64 y)
    exact bodyPost_ret (v := .tuple #[(.agg #[.int .i64 x, .int .i64 y]), (.int .i64 0)]) (by simp [results, Try.results24, go_sem, d1, d2]) rfl ⟨rfl, by repeat (first | with_reducible exact own_refl _ | with_reducible assumption | with_reducible apply own_alloc | with_reducible apply own_drewN | with_reducible apply own_drew | ((with_reducible refine own_setCell ?_ ?_ _); rotate_left; focus (first | (simp; done) | (simp; omega))) | (with_reducible (refine own_trans ?_ (by assumption))))⟩
theorem tth_pos {q s : Int} (h : s ≠ 0) : tth q s = 2 * s - q := by rw [tth, if_neg h]
set_option maxRecDepth 100000 in
set_option maxHeartbeats 4000000 in
theorem specSaw_yes (r : Bool) (p q x y : Int) (h : isF p q = true) (hq : 1 < q) (hx : lowP (tth q (rst p q)) (2 * q) = x) (hy : lowQ (tth q (rst p q)) (2 * q) = y) (hr : allW [x, y] 1000000000 = r) (w : World) :
    Calls Try.prog 25 #[(.agg #[.int .i64 p, .int .i64 q])] w fun e w' => e = .returned (.tuple #[(.agg #[.int .i64 (sawX r x), .int .i64 (sawX r y)]), (.int .i64 (sawK r))]) ∧ Below w.heap.size w w' := by
  obtain ⟨ep, _, q2, hg, _⟩ := isF_bd h
  have r1 := rst_bd (x := p) (n := q) (by omega)
  rw [tth_pos (rst_pos hq hg)] at hx hy
  have H := Lib.hid h
  have HM := Lib.hid (fun w => l01Mod_big p q (by omega) q2 (ent_i64 ep) w)
  have HL := Lib.hid (fun w => specLow_at _ _ x y hx hy (by unfold Mid; omega) (by unfold Mid; omega) (by omega) w)
  have e : allW [x, y] 1000000000 = (inW x 1000000000 && inW y 1000000000) := by simp [allW]
  rw [e] at hr
  have hq0 : (q == 0) = false := by simp; omega
  have hq1 : (q == 1) = false := by simp; omega
  have hq2 : ¬ q = 0 := by omega
  clear h hx hy ep e hg
  obtain ⟨_, _⟩ := r1
  generalize rst p q = s at *
  have e1 : IntKind.i64.wrap (2 * s) = 2 * s := IntWalk.i64_in _ (by omega)
  have e2 : IntKind.i64.wrap (2 * s - q) = 2 * s - q := IntWalk.i64_in _ (by omega)
  have e3 : IntKind.i64.wrap (2 * q) = 2 * q := IntWalk.i64_in _ (by omega)
  go_enter Try.func25, Try.ntmps25
  go_wp2_with fail
  refine (l01Fraction_is true _ _ H.out _).mono ?_
  rintro e w1 ⟨rfl, hb1⟩
  have T1 : Below w.heap.size w w1 := by repeat (first | with_reducible exact own_refl _ | with_reducible assumption | with_reducible apply own_alloc | with_reducible apply own_drewN | with_reducible apply own_drew | ((with_reducible refine own_setCell ?_ ?_ _); rotate_left; focus (first | (simp; done) | (simp; omega))) | (with_reducible (refine own_trans ?_ (by assumption))))
  have B1 : Box w1 w.heap.size [.int .i64 p, .int .i64 q] := Box.below ((Box.new _ _ _).alloc _) hb1
  have Z1 : Box w1 (w.heap.size + 1) [.int .i64 0, .int .i64 0] := Box.below (Box.newAt (by simp) _ _) hb1
  clear hb1
  obtain ⟨_, _, _, _, _⟩ := B1.two
  go_upto_region 7 with fail
  go_cut [4] (fun s4 wx => ∃ gx : Nat, s4 = .pointer (some ⟨gx, 0, none⟩) ∧ Box wx gx [.int .i64 x, .int .i64 y] ∧ Below w.heap.size w wx ∧ Box wx (w.heap.size + 1) [.int .i64 0, .int .i64 0] ∧ ¬ (gx = w.heap.size + 1))
  case first =>
    have N1 : ¬ (w1.heap.size = w.heap.size + 1) := Nat.ne_of_gt Z1.1
    have N0 : ¬ (w1.heap.size = w.heap.size) := Nat.ne_of_gt B1.1
    have hz1 := T1.size
    go_region_held3 (fun w' => w'.cell? ⟨w.heap.size, 0, none⟩ = some (.int .i64 p) ∧ w'.cell? ⟨w.heap.size, 1, none⟩ = some (.int .i64 q)) (go_keep)
      (first
        | (go_at_call 47; refine (HM.out _).mono ?_; rintro e w' ⟨rfl, rfl⟩)
        | (go_at_call 32; refine (HL.out _).mono ?_; rintro e w2 ⟨rfl, hb2⟩
           have T2 := (by first | exact own_trans T1 hb2 | exact own_trans (own_drew T1) hb2 | exact own_trans (own_alloc T1 _) hb2 | exact own_trans (own_drew (own_alloc T1 _)) hb2 | exact own_trans (own_alloc (own_drew T1) _) hb2 : Below w.heap.size w w2)
           have B2 := Box.below (by first | exact B1 | exact Box.drew B1 | exact Box.alloc B1 _ | exact Box.drew (Box.alloc B1 _) | exact Box.alloc (Box.drew B1) _) hb2
           have Z2 := Box.below (by first | exact Z1 | exact Box.drew Z1 | exact Box.alloc Z1 _ | exact Box.drew (Box.alloc Z1 _) | exact Box.alloc (Box.drew Z1) _) hb2
           have N2 : ¬ (w2.heap.size = w.heap.size + 1) := Nat.ne_of_gt Z2.1
           obtain ⟨_, _, _, _, _⟩ := B2.two
           first
             | (have BO : Box w2 w1.heap.size [.int .i64 0, .int .i64 0] := Box.below (by first | exact Box.new _ _ _ | exact Box.drew (Box.new _ _ _)) hb2
                obtain ⟨_, _, _, _, _⟩ := BO.two)
             | skip))
    all_goals
      go_wp2_with fail
      go_meet
      first
        | exact ⟨_, rfl, Box.new _ _ _, by repeat (first | with_reducible exact own_refl _ | with_reducible assumption | with_reducible apply own_alloc | with_reducible apply own_drewN | with_reducible apply own_drew | ((with_reducible refine own_setCell ?_ ?_ _); rotate_left; focus (first | (simp; done) | (simp; omega))) | (with_reducible (refine own_trans ?_ (by assumption)))), Z2.alloc _, N2⟩
        | exact ⟨_, rfl, BO.put2 _ _, own_setCell (own_setCell T2 hz1 _) hz1 _, (Z2.far (Ne.symm N1) _).far (Ne.symm N1) _, N1⟩
  case rest =>
    obtain ⟨gx, rfl, BX, T3, Z3, hne⟩ := hcut
    obtain ⟨_, _, _, _, _⟩ := BX.two
    obtain ⟨_, _, _, _, _⟩ := Z3.two
    rcases h1 : inW x 1000000000 with _ | _
    · have hr : r = false := by rw [h1] at hr; simpa using hr.symm
      subst hr
      go_wp2_with (go_at_call 48; refine (l01Entry_any _ _).mono ?_; rintro e w4 ⟨rfl, rfl⟩)
      obtain ⟨_, d1, d2⟩ := Z3.reads2d (.int .i64 0) (.int .i64 0)
      exact bodyPost_ret (v := .tuple #[(.agg #[.int .i64 0, .int .i64 0]), (.int .i64 3)]) (by simp [results, Try.results25, go_sem, d1, d2]) rfl ⟨rfl, by repeat (first | with_reducible exact own_refl _ | with_reducible assumption | with_reducible apply own_alloc | with_reducible apply own_drewN | with_reducible apply own_drew | ((with_reducible refine own_setCell ?_ ?_ _); rotate_left; focus (first | (simp; done) | (simp; omega))) | (with_reducible (refine own_trans ?_ (by assumption))))⟩
    · rcases h2 : inW y 1000000000 with _ | _
      · have hr : r = false := by rw [h1, h2] at hr; simpa using hr.symm
        subst hr
        go_wp2_with (go_at_call 48; refine (l01Entry_any _ _).mono ?_; rintro e w4 ⟨rfl, rfl⟩)
        obtain ⟨_, d1, d2⟩ := Z3.reads2d (.int .i64 0) (.int .i64 0)
        exact bodyPost_ret (v := .tuple #[(.agg #[.int .i64 0, .int .i64 0]), (.int .i64 3)]) (by simp [results, Try.results25, go_sem, d1, d2]) rfl ⟨rfl, by repeat (first | with_reducible exact own_refl _ | with_reducible assumption | with_reducible apply own_alloc | with_reducible apply own_drewN | with_reducible apply own_drew | ((with_reducible refine own_setCell ?_ ?_ _); rotate_left; focus (first | (simp; done) | (simp; omega))) | (with_reducible (refine own_trans ?_ (by assumption))))⟩
      · have hr : r = true := by rw [h1, h2] at hr; simpa using hr.symm
        subst hr
        go_wp2_with (go_at_call 48; refine (l01Entry_any _ _).mono ?_; rintro e w4 ⟨rfl, rfl⟩)
        obtain ⟨_, d1, d2⟩ := Z3.reads2d (.int .i64 x) (.int .i64 y)
        exact bodyPost_ret (v := .tuple #[(.agg #[.int .i64 x, .int .i64 y]), (.int .i64 0)]) (by simp [results, Try.results25, go_sem, d1, d2]) rfl ⟨rfl, by repeat (first | with_reducible exact own_refl _ | with_reducible assumption | with_reducible apply own_alloc | with_reducible apply own_drewN | with_reducible apply own_drew | ((with_reducible refine own_setCell ?_ ?_ _); rotate_left; focus (first | (simp; done) | (simp; omega))) | (with_reducible (refine own_trans ?_ (by assumption))))⟩
end Go.Proofs.Ythggpcdbnopabaa
