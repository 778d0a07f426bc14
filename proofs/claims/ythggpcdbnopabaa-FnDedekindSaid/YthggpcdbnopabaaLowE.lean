/- Fractions in lowest terms: equal fractions have equal ones. -/
import Derived.Test.YthggpcdbnopabaaLow
namespace Go.Proofs.Ythggpcdbnopabaa
open Go.ChangeShapes Go.WideShapes Go.ChangeAt Go.RowKit

theorem low_parts {p q : Int} (hq : 0 < q) : ∃ g : Int, 0 < g ∧ p = g * lowP p q ∧ q = g * lowQ p q ∧ 0 < lowQ p q ∧ Int.gcd (lowP p q) (lowQ p q) = 1 := by
  have hg : 0 < Int.gcd p q := by
    rcases Nat.eq_zero_or_pos (Int.gcd p q) with h0 | h0
    · rw [Int.gcd_eq_zero_iff] at h0; omega
    · exact h0
  have hd : dv p q = (Int.gcd p q : Int) := by unfold dv; rw [if_neg (by omega)]
  have h1 : p.tdiv (Int.gcd p q) = p / (Int.gcd p q : Int) := Int.tdiv_eq_ediv_of_dvd (Int.gcd_dvd_left _ _)
  have h2 : q.tdiv (Int.gcd p q) = q / (Int.gcd p q : Int) := Int.tdiv_eq_ediv_of_dvd (Int.gcd_dvd_right _ _)
  have h3 : q = (Int.gcd p q : Int) * (q / (Int.gcd p q : Int)) := (Int.mul_ediv_cancel' (Int.gcd_dvd_right _ _)).symm
  have h4 : p = (Int.gcd p q : Int) * (p / (Int.gcd p q : Int)) := (Int.mul_ediv_cancel' (Int.gcd_dvd_left _ _)).symm
  unfold lowP lowQ
  rw [hd, h1, h2]
  refine ⟨(Int.gcd p q : Int), by omega, h4, h3, ?_, Int.gcd_ediv_gcd_ediv_gcd hg⟩
  exact Int.ediv_pos_of_pos_of_dvd hq (by omega) (Int.gcd_dvd_right _ _)
theorem cop_dvd' {a b c : Int} (h : Int.gcd a b = 1) (hd : b ∣ a * c) : b ∣ c := by
  have h1 : b.natAbs ∣ a.natAbs * c.natAbs := by rw [← Int.natAbs_mul]; exact Int.natAbs_dvd_natAbs.2 hd
  exact Int.natAbs_dvd_natAbs.1 (Nat.Coprime.dvd_of_dvd_mul_left (k := b.natAbs) (m := a.natAbs) (n := c.natAbs) (by rw [Nat.Coprime, Nat.gcd_comm]; exact h) h1)
theorem low_eq {p q p' q' : Int} (hq : 0 < q) (hq' : 0 < q') (h : p * q' = p' * q) : lowP p q = lowP p' q' ∧ lowQ p q = lowQ p' q' := by
  obtain ⟨g, g0, e1, e2, b0, hc⟩ := low_parts (p := p) hq
  obtain ⟨g', g0', e1', e2', b0', hc'⟩ := low_parts (p := p') hq'
  generalize lowP p q = a at *
  generalize lowQ p q = b at *
  generalize lowP p' q' = a' at *
  generalize lowQ p' q' = b' at *
  have h1 : a * b' = a' * b := by
    have h2 : (g * g') * (a * b') = (g * g') * (a' * b) := by subst e1 e2 e1' e2'; grind
    exact Int.eq_of_mul_eq_mul_left (Int.ne_of_gt (Int.mul_pos g0 g0')) h2
  have h3 : b ∣ b' := cop_dvd' hc (h1 ▸ Int.dvd_mul_left _ _)
  have h4 : b' ∣ b := cop_dvd' hc' (h1 ▸ Int.dvd_mul_left _ _)
  have h5 := Int.dvd_antisymm (Int.le_of_lt b0) (Int.le_of_lt b0') h3 h4
  subst h5
  exact ⟨Int.eq_of_mul_eq_mul_right (by omega) h1, rfl⟩
theorem low_inj {p q p' : Int} (hq : 0 < q) (h1 : lowP p q = lowP p' q) (h2 : lowQ p q = lowQ p' q) : p = p' := by
  obtain ⟨g, g0, e1, e2, b0, hc⟩ := low_parts (p := p) hq
  obtain ⟨g', g0', e1', e2', b0', hc'⟩ := low_parts (p := p') hq
  rw [← h1, ← h2] at *
  have h3 : g = g' := Int.eq_of_mul_eq_mul_right (Int.ne_of_gt b0) (e2.symm.trans e2')
  rw [e1, e1', h3, ← h1]
theorem low_scale {p q : Int} (hq : 0 < q) : p * lowQ p q = lowP p q * q := by
  obtain ⟨g, g0, e1, e2, b0, hc⟩ := low_parts (p := p) hq
  generalize lowP p q = a at *
  generalize lowQ p q = b at *
  subst e1 e2
  grind
theorem implLow_at (p q x y : Int) (hx : lowP p q = x) (hy : lowQ p q = y) (hp : Mid p) (hq : Mid q) (h : ¬ (p = 0 ∧ q = 0)) (w : World) :
    Calls Try.prog 34 #[(.int .i64 p), (.int .i64 q)] w fun e w' => e = .returned (.agg #[.int .i64 x, .int .i64 y]) ∧ Below w.heap.size w w' := hx ▸ hy ▸ implLow_any p q hp hq h w
theorem specLow_at (p q x y : Int) (hx : lowP p q = x) (hy : lowQ p q = y) (hp : Mid p) (hq : Mid q) (h : ¬ (p = 0 ∧ q = 0)) (w : World) :
    Calls Try.prog 32 #[(.int .i64 p), (.int .i64 q)] w fun e w' => e = .returned (.agg #[.int .i64 x, .int .i64 y]) ∧ Below w.heap.size w w' := hx ▸ hy ▸ specLow_any p q hp hq h w
end Go.Proofs.Ythggpcdbnopabaa
