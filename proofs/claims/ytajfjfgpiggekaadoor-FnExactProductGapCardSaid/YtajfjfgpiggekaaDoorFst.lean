/- First numbers: firstNumber on both sides. -/
import Derived.Test.YtajfjfgpiggekaaDoorDsS
import Derived.Test.YtajfjfgpiggekaaDoorCmp
import Derived.Test.YtajfjfgpiggekaaDoorTr
import Derived.Test.YtajfjfgpiggekaaDoorAbs
namespace Go.Proofs.YtajfjfgpiggekaaDoor
open Go.ChangeShapes Go.WideShapes Go.ChangeAt Go.RowKit

theorem traceOf_any (a b c d : Int) (ha : Ent a) (hd : Ent d) (w : World) :
    Calls Tryd.prog 41 #[(.agg #[.int .i64 a, .int .i64 b, .int .i64 c, .int .i64 d])] w fun e w' => e = .returned (.int .i64 (a + d)) ∧ Below w.heap.size w w' := by
  obtain ⟨_, _⟩ := ha
  obtain ⟨_, _⟩ := hd
  go_enter Tryd.func41, Tryd.ntmps41
  go_wp2
  go_ret
  exact ⟨rfl, by repeat (first | with_reducible exact own_refl _ | with_reducible assumption | with_reducible apply own_alloc | with_reducible apply own_drewN | with_reducible apply own_drew | ((with_reducible refine own_setCell ?_ ?_ _); rotate_left; focus (first | (simp; done) | (simp; omega))) | (with_reducible (refine own_trans ?_ (by assumption))))⟩
theorem l07Sign_any (x : Int) (w : World) : Calls Tryd.prog 33 #[(.int .i64 x)] w fun e w' => e = .returned (.int .i64 (sgn x)) ∧ w = w' := by
  rcases (show x < 0 ∨ x = 0 ∨ 0 < x by omega) with h | h | h
  · have H := Lib.hid (show (-1 : Int) = sgn x by unfold sgn; grind)
    go_enter Tryd.func33, Tryd.ntmps33
    go_wp2
    go_ret
    exact ⟨ret_int H.out, rfl⟩
  · subst h
    have H := Lib.hid (show (0 : Int) = sgn 0 by unfold sgn; grind)
    go_enter Tryd.func33, Tryd.ntmps33
    go_wp2
    go_ret
    exact ⟨ret_int H.out, rfl⟩
  · have H := Lib.hid (show (1 : Int) = sgn x by unfold sgn; grind)
    go_enter Tryd.func33, Tryd.ntmps33
    go_wp2
    go_ret
    exact ⟨ret_int H.out, rfl⟩
theorem sgn_bd (x : Int) : -1 ≤ sgn x ∧ sgn x ≤ 1 := by unfold sgn; grind
/-- the number c without its sign, as the model has it -/
theorem isM_gcd {a b c d : Int} (h : isM a b c d = true) : Int.gcd d (c.natAbs : Int) = 1 := by
  obtain ⟨_, _, _, _, hd⟩ := isM_ent h
  have h1 : ((Int.gcd d (c.natAbs : Int) : Nat) : Int) ∣ d := Int.gcd_dvd_left _ _
  have h2 : ((Int.gcd d (c.natAbs : Int) : Nat) : Int) ∣ c := Int.dvd_natAbs.1 (Int.gcd_dvd_right _ _)
  have h3 : ((Int.gcd d (c.natAbs : Int) : Nat) : Int) ∣ a * d - b * c := Int.dvd_sub (Int.dvd_trans h1 (Int.dvd_mul_left _ _)) (Int.dvd_trans h2 (Int.dvd_mul_left _ _))
  rw [hd] at h3
  have := Int.eq_one_of_dvd_one (by omega) h3
  omega
/-- the first number -/
def fst (a b c d : Int) : Int := if c = 0 then b * d else (sgn c * (a + d - ls d (c.natAbs : Int))).tdiv (c.natAbs : Int)
theorem low_small {p q : Int} (hq : 0 < q) : 1 ≤ lowQ p q ∧ lowQ p q ≤ q ∧ -(p.natAbs : Int) ≤ lowP p q ∧ lowP p q ≤ (p.natAbs : Int) := by
  obtain ⟨g, g0, e1, e2, b0, _⟩ := low_parts (p := p) hq
  generalize lowP p q = a at *
  generalize lowQ p q = b at *
  have h1 : b ≤ q := by
    have := Int.mul_le_mul_of_nonneg_right (show 1 ≤ g by omega) (show 0 ≤ b by omega)
    omega
  have h2 : a.natAbs ≤ p.natAbs := by
    rw [e1, Int.natAbs_mul]
    exact Nat.le_mul_of_pos_left _ (by omega)
  omega
/-- what both sides compute from the sum -/
theorem fst_eq {s t k L x y : Int} (hk : 0 < k) (hx : lowP L (12 * k) = x) (hy : lowQ L (12 * k) = y) : (s * (t * y - 12 * k * x)).tdiv (k * y) = (s * (t - L)).tdiv k := by
  have h1 := low_scale (p := L) (q := 12 * k) (by omega)
  have h2 := low_small (p := L) (q := 12 * k) (by omega)
  rw [hx, hy] at h1
  rw [hy] at h2
  have h3 : s * (t * y - 12 * k * x) = (s * (t - L)) * y := by grind
  rw [h3]
  exact Int.mul_tdiv_mul_of_pos_left _ _ (by omega)
theorem fst_bd {a b c d : Int} (h : isM a b c d = true) (hc : (c.natAbs : Int) ≤ 20000) : -1000000000000000000 ≤ fst a b c d ∧ fst a b c d ≤ 1000000000000000000 := by
  obtain ⟨ea, eb, ec, ed, _⟩ := isM_ent h
  unfold fst
  split
  · exact ent_mul eb ed
  · have h1 := ls_bd (h := d) (k := (c.natAbs : Int)) (by omega) hc (isM_gcd h)
    unfold Ent at ea ed
    generalize hX : a + d - ls d (c.natAbs : Int) = X
    have h3 := Dd.mul_bd (x := sgn c) (y := X) (K := 4000000000) (by omega) (by have := sgn_bd c; omega) (by have := sgn_bd c; omega) (by omega) (by omega)
    have h4 : ((sgn c * X).tdiv (c.natAbs : Int)).natAbs ≤ (sgn c * X).natAbs := by
      rw [Int.natAbs_tdiv]; exact Nat.div_le_self _ _
    have h5 : (sgn c * X).natAbs ≤ X.natAbs := by
      rw [Int.natAbs_mul]
      have : (sgn c).natAbs ≤ 1 := by have := sgn_bd c; omega
      calc (sgn c).natAbs * X.natAbs ≤ 1 * X.natAbs := Nat.mul_le_mul_right _ this
        _ = X.natAbs := Nat.one_mul _
    omega
end Go.Proofs.YtajfjfgpiggekaaDoor
