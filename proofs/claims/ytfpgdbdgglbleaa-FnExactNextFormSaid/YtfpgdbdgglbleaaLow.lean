/- Contracts of fractions in lowest terms. -/
import Derived.Test.YtfpgdbdgglbleaaGcd
namespace Go.Proofs.Ytfpgdbdgglbleaa
open Go.ChangeShapes Go.WideShapes Go.ChangeAt Go.RowKit

/-- what both numbers are divided by -/
def dv (p q : Int) : Int := if q < 0 ∨ (q = 0 ∧ p < 0) then -(Int.gcd p q : Int) else (Int.gcd p q : Int)
def lowP (p q : Int) : Int := p.tdiv (dv p q)
def lowQ (p q : Int) : Int := q.tdiv (dv p q)
theorem gcd_facts {p q : Int} (h : ¬ (p = 0 ∧ q = 0)) (hp : Mid p) (hq : Mid q) : 1 ≤ (Int.gcd p q : Int) ∧ (Int.gcd p q : Int) ≤ 4000000000000000000 := by
  have h1 : 0 < Int.gcd p q := by
    rcases Nat.eq_zero_or_pos (Int.gcd p q) with h0 | h0
    · rw [Int.gcd_eq_zero_iff] at h0; exact absurd h0 h
    · exact h0
  refine ⟨by omega, ?_⟩
  unfold Mid at hp hq
  by_cases e : p = 0
  · have := Nat.le_of_dvd (show 0 < q.natAbs by omega) (Int.gcd_dvd_natAbs_right p q)
    omega
  · have := Nat.le_of_dvd (show 0 < p.natAbs by omega) (Int.gcd_dvd_natAbs_left p q)
    omega
theorem tdiv_bd {x d : Int} (hx : Mid x) : Mid (x.tdiv d) := by
  have h1 : (x.tdiv d).natAbs = x.natAbs / d.natAbs := Int.natAbs_tdiv x d
  have h2 : x.natAbs / d.natAbs ≤ x.natAbs := Nat.div_le_self _ _
  unfold Mid at *
  omega

end Go.Proofs.Ytfpgdbdgglbleaa
