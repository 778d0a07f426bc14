/- Contracts of determinants of two fractions. -/
import Derived.Test.YtmlbbhhjjepmkaaDoorMust
import Derived.Test.YtmlbbhhjjepmkaaDoorAbs
namespace Go.Proofs.YtmlbbhhjjepmkaaDoor
open Go.ChangeShapes Go.WideShapes Go.ChangeAt Go.RowKit

theorem Box.reads2 {w : World} {g : Nat} {x0 x1 : Value} (h : Box w g [x0, x1]) (y0 y1 : Value) :
    (w.setCell ⟨g, 0, none⟩ y0).cell? ⟨g, 0, none⟩ = some y0 ∧ ((w.setCell ⟨g, 0, none⟩ y0).setCell ⟨g, 1, none⟩ y1).cell? ⟨g, 0, none⟩ = some y0 ∧ ((w.setCell ⟨g, 0, none⟩ y0).setCell ⟨g, 1, none⟩ y1).cell? ⟨g, 1, none⟩ = some y1 :=
  ⟨((h.set 0 (by simp) y0).two).2.1, (h.put2 y0 y1).two.2.1, (h.put2 y0 y1).two.2.2.1⟩
theorem Box.reads4 {w : World} {g : Nat} {x0 x1 x2 x3 : Value} (h : Box w g [x0, x1, x2, x3]) (y0 y1 y2 y3 : Value) :
    (w.setCell ⟨g, 0, none⟩ y0).cell? ⟨g, 0, none⟩ = some y0 ∧ ((w.setCell ⟨g, 0, none⟩ y0).setCell ⟨g, 1, none⟩ y1).cell? ⟨g, 1, none⟩ = some y1 ∧
      (((w.setCell ⟨g, 0, none⟩ y0).setCell ⟨g, 1, none⟩ y1).setCell ⟨g, 2, none⟩ y2).cell? ⟨g, 2, none⟩ = some y2 ∧ ((((w.setCell ⟨g, 0, none⟩ y0).setCell ⟨g, 1, none⟩ y1).setCell ⟨g, 2, none⟩ y2).setCell ⟨g, 3, none⟩ y3).cell? ⟨g, 3, none⟩ = some y3 :=
  ⟨((h.set 0 (by simp) y0).four).2.1, (((h.set 0 (by simp) y0).set 1 (by simp) y1).four).2.2.1, ((((h.set 0 (by simp) y0).set 1 (by simp) y1).set 2 (by simp) y2).four).2.2.2.1, (h.put4 y0 y1 y2 y3).four.2.2.2.2.1⟩
theorem isF_ent {p q : Int} (h : isF p q = true) : Ent p ∧ Ent q ∧ 0 ≤ q ∧ Int.gcd p q = 1 ∧ (0 < q ∨ p = 1) := by
  obtain ⟨h1, h2, h3, h4, h5⟩ := of_decide_eq_true h
  exact ⟨h1, by unfold Ent; omega, h2, h4, h5⟩
/-- The determinant of two fractions. -/
def detF (p q s t : Int) : Int := p * t - q * s
theorem detF_bd {p q s t : Int} (hp : Ent p) (hq : Ent q) (hs : Ent s) (ht : Ent t) : -2000000000000000000 ≤ detF p q s t ∧ detF p q s t ≤ 2000000000000000000 := by
  have h1 := ent_mul hp ht
  have h2 := ent_mul hq hs
  unfold detF
  omega
set_option maxHeartbeats 1000000 in
theorem det_is (p q s t D : Int) (hD : detF p q s t = D) (hp : Ent p) (hq : Ent q) (hs : Ent s) (ht : Ent t) (w : World) :
    Calls Tryd.prog 57 #[(.agg #[.int .i64 p, .int .i64 q]), (.agg #[.int .i64 s, .int .i64 t])] w fun e w' => e = .returned (.int .i64 D) ∧ Below w.heap.size w w' := by
  have h1 := ent_mul hp ht
  have h2 := ent_mul hq hs
  have HD : Hid (p * t - q * s = D) := Lib.hid hD
  clear hp hq hs ht hD
  obtain ⟨_, _⟩ := h1
  obtain ⟨_, _⟩ := h2
  go_enter Tryd.func57, Tryd.ntmps57
  go_wp2
  go_ret
  exact ⟨ret_int HD.out, by repeat (first | with_reducible exact own_refl _ | with_reducible assumption | with_reducible apply own_alloc | with_reducible apply own_drewN | with_reducible apply own_drew | ((with_reducible refine own_setCell ?_ ?_ _); rotate_left; focus (first | (simp; done) | (simp; omega))) | (with_reducible (refine own_trans ?_ (by assumption))))⟩
theorem l03F_is (r : Bool) (p q : Int) (h : isF p q = r) (w : World) : Calls Tryd.prog 15 #[(.agg #[.int .i64 p, .int .i64 q])] w fun e w' => e = .returned (.bool r) ∧ Below w.heap.size w w' := h ▸ l01Fraction_any p q w
set_option maxHeartbeats 1000000 in
theorem both_yes (p q s t : Int) (h1 : isF p q = true) (h2 : isF s t = true) (w : World) :
    Calls Tryd.prog 27 #[(.agg #[.int .i64 p, .int .i64 q]), (.agg #[.int .i64 s, .int .i64 t])] w fun e w' => e = .returned (.int .i64 0) ∧ Below w.heap.size w w' := by
  have H1 := Lib.hid h1
  have H2 := Lib.hid h2
  clear h1 h2
  go_enter Tryd.func27, Tryd.ntmps27
  go_wp2_with fail
  refine (l03F_is true _ _ H1.out _).mono ?_
  rintro e w1 ⟨rfl, hb1⟩
  have B1 : Box w1 (w.heap.size + 1) [.int .i64 s, .int .i64 t] := Box.below (Box.newAt (by simp) _ _) hb1
  obtain ⟨_, _, _, _, _⟩ := B1.two
  go_wp2_with fail
  refine (l03F_is true _ _ H2.out _).mono ?_
  rintro e w2 ⟨rfl, hb2⟩
  go_wp2
  go_ret
  exact ⟨rfl, by repeat (first | with_reducible exact own_refl _ | with_reducible assumption | with_reducible apply own_alloc | with_reducible apply own_drewN | with_reducible apply own_drew | ((with_reducible refine own_setCell ?_ ?_ _); rotate_left; focus (first | (simp; done) | (simp; omega))) | (with_reducible (refine own_trans ?_ (by assumption))))⟩
set_option maxHeartbeats 1000000 in
theorem both_first (p q s t : Int) (h1 : isF p q = false) (w : World) :
    Calls Tryd.prog 27 #[(.agg #[.int .i64 p, .int .i64 q]), (.agg #[.int .i64 s, .int .i64 t])] w fun e w' => e = .returned (.int .i64 1) ∧ Below w.heap.size w w' := by
  have H1 := Lib.hid h1
  clear h1
  go_enter Tryd.func27, Tryd.ntmps27
  go_wp2_with fail
  refine (l03F_is false _ _ H1.out _).mono ?_
  rintro e w1 ⟨rfl, hb1⟩
  go_wp2
  go_ret
  exact ⟨rfl, by repeat (first | with_reducible exact own_refl _ | with_reducible assumption | with_reducible apply own_alloc | with_reducible apply own_drewN | with_reducible apply own_drew | ((with_reducible refine own_setCell ?_ ?_ _); rotate_left; focus (first | (simp; done) | (simp; omega))) | (with_reducible (refine own_trans ?_ (by assumption))))⟩
set_option maxHeartbeats 1000000 in
theorem both_second (p q s t : Int) (h1 : isF p q = true) (h2 : isF s t = false) (w : World) :
    Calls Tryd.prog 27 #[(.agg #[.int .i64 p, .int .i64 q]), (.agg #[.int .i64 s, .int .i64 t])] w fun e w' => e = .returned (.int .i64 1) ∧ Below w.heap.size w w' := by
  have H1 := Lib.hid h1
  have H2 := Lib.hid h2
  clear h1 h2
  go_enter Tryd.func27, Tryd.ntmps27
  go_wp2_with fail
  refine (l03F_is true _ _ H1.out _).mono ?_
  rintro e w1 ⟨rfl, hb1⟩
  have B1 : Box w1 (w.heap.size + 1) [.int .i64 s, .int .i64 t] := Box.below (Box.newAt (by simp) _ _) hb1
  obtain ⟨_, _, _, _, _⟩ := B1.two
  go_wp2_with fail
  refine (l03F_is false _ _ H2.out _).mono ?_
  rintro e w2 ⟨rfl, hb2⟩
  go_wp2
  go_ret
  exact ⟨rfl, by repeat (first | with_reducible exact own_refl _ | with_reducible assumption | with_reducible apply own_alloc | with_reducible apply own_drewN | with_reducible apply own_drew | ((with_reducible refine own_setCell ?_ ?_ _); rotate_left; focus (first | (simp; done) | (simp; omega))) | (with_reducible (refine own_trans ?_ (by assumption))))⟩
theorem both_no (p q s t : Int) (h : ¬ (isF p q = true ∧ isF s t = true)) (w : World) :
    Calls Tryd.prog 27 #[(.agg #[.int .i64 p, .int .i64 q]), (.agg #[.int .i64 s, .int .i64 t])] w fun e w' => e = .returned (.int .i64 1) ∧ Below w.heap.size w w' := by
  rcases h1 : isF p q with _ | _
  · exact both_first p q s t h1 w
  · rcases h2 : isF s t with _ | _
    · exact both_second p q s t h1 h2 w
    · exact absurd ⟨h1, h2⟩ h
end Go.Proofs.YtmlbbhhjjepmkaaDoor
