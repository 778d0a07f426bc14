/- Contracts of determinants of two fractions. -/
import Derived.Test.YtejghidllochoaaMust
import Derived.Test.YtejghidllochoaaAbs
namespace Go.Proofs.Ytejghidllochoaa
open Go.ChangeShapes Go.WideShapes Go.ChangeAt Go.RowKit

theorem Box.reads2 {w : World} {g : Nat} {x0 x1 : Value} (h : Box w g [x0, x1]) (y0 y1 : Value) :
    (w.setCell ⟨g, 0, none⟩ y0).cell? ⟨g, 0, none⟩ = some y0 ∧ ((w.setCell ⟨g, 0, none⟩ y0).setCell ⟨g, 1, none⟩ y1).cell? ⟨g, 0, none⟩ = some y0 ∧ ((w.setCell ⟨g, 0, none⟩ y0).setCell ⟨g, 1, none⟩ y1).cell? ⟨g, 1, none⟩ = some y1 :=
  ⟨((h.set 0 (by simp) y0).two).2.1, (h.put2 y0 y1).two.2.1, (h.put2 y0 y1).two.2.2.1⟩
theorem Box.reads4 {w : World} {g : Nat} {x0 x1 x2 x3 : Value} (h : Box w g [x0, x1, x2, x3]) (y0 y1 y2 y3 : Value) :
    (w.setCell ⟨g, 0, none⟩ y0).cell? ⟨g, 0, none⟩ = some y0 ∧ ((w.setCell ⟨g, 0, none⟩ y0).setCell ⟨g, 1, none⟩ y1).cell? ⟨g, 1, none⟩ = some y1 ∧
      (((w.setCell ⟨g, 0, none⟩ y0).setCell ⟨g, 1, none⟩ y1).setCell ⟨g, 2, none⟩ y2).cell? ⟨g, 2, none⟩ = some y2 ∧ ((((w.setCell ⟨g, 0, none⟩ y0).setCell ⟨g, 1, none⟩ y1).setCell ⟨g, 2, none⟩ y2).setCell ⟨g, 3, none⟩ y3).cell? ⟨g, 3, none⟩ = some y3 :=
  ⟨((h.set 0 (by simp) y0).four).2.1, (((h.set 0 (by simp) y0).set 1 (by simp) y1).four).2.2.1, ((((h.set 0 (by simp) y0).set 1 (by simp) y1).set 2 (by simp) y2).four).2.2.2.1, (h.put4 y0 y1 y2 y3).four.2.2.2.2.1⟩
theorem isF_ent {p q : Int} (h : isF p q = true) : Ent p ∧ Ent q ∧ 0 ≤ q ∧ Int.gcd p q = 1 ∧ (0 < q ∨ p = 1) := by
  obtain ⟨h1, h2, h3, h4, h5⟩ := of_decide_eq_true h
  exact ⟨h1, by unfold Ent; omega, h2, h4, h5⟩
/-- The determinant of two fractions. -/
def detF (p q s t : Int) : Int := p * t - q * s
theorem detF_bd {p q s t : Int} (hp : Ent p) (hq : Ent q) (hs : Ent s) (ht : Ent t) : -2000000000000000000 ≤ detF p q s t ∧ detF p q s t ≤ 2000000000000000000 := by
  have h1 := ent_mul hp ht
  have h2 := ent_mul hq hs
  unfold detF
  omega
set_option maxHeartbeats 1000000 in
theorem det_is (p q s t D : Int) (hD : detF p q s t = D) (hp : Ent p) (hq : Ent q) (hs : Ent s) (ht : Ent t) (w : World) :
    Calls Try.prog 46 #[(.agg #[.int .i64 p, .int .i64 q]), (.agg #[.int .i64 s, .int .i64 t])] w fun e w' => e = .returned (.int .i64 D) ∧ Below w.heap.size w w' := by
  have h1 := ent_mul hp ht
  have h2 := ent_mul hq hs
  have HD : Hid (p * t - q * s = D) := Lib.hid hD
  clear hp hq hs ht hD
  obtain ⟨_, _⟩ := h1
  obtain ⟨_, _⟩ := h2
  go_enter Try.func46, Try.ntmps46
  go_wp2
  go_ret
  exact ⟨ret_int HD.out, by repeat (first | with_reducible exact own_refl _ | with_reducible assumption | with_reducible apply own_alloc | with_reducible apply own_drewN | with_reducible apply own_drew | ((with_reducible refine own_setCell ?_ ?_ _); rotate_left; focus (first | (simp; done) | (simp; omega))) | (with_reducible (refine own_trans ?_ (by assumption))))⟩
theorem l03F_is (r : Bool) (p q : Int) (h : isF p q = r) (w : World) : Calls Try.prog 16 #[(.agg #[.int .i64 p, .int .i64 q])] w fun e w' => e = .returned (.bool r) ∧ Below w.heap.size w w' := h ▸ l01Fraction_any p q w
end Go.Proofs.Ytejghidllochoaa
