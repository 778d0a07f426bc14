/- Contracts of fractions in lowest terms. -/
import Derived.Test.YtfchfakkbdfajaaDoorGcd
namespace Go.Proofs.YtfchfakkbdfajaaDoor
open Go.ChangeShapes Go.WideShapes Go.ChangeAt Go.RowKit

set_option maxHeartbeats 1000000 in
theorem l01Gcd_any (x y : Int) (hx : Mid x) (hy : Mid y) (w : World) :
    Calls Tryd.prog 85 #[(.int .i64 x), (.int .i64 y)] w fun e w' => e = .returned (.int .i64 ((Int.gcd x y : Int))) ∧ w = w' := by
  go_enter Tryd.func85, Tryd.ntmps85
  go_wp2
  go_loop [0, 1] (fun p q => ∃ a b : Int, p = (.int .i64 a) ∧ q = (.int .i64 b) ∧ Mid a ∧ Mid b ∧ Int.gcd a b = Int.gcd x y) (fun _ q => (intOf q).natAbs)
  case atStart => exact ⟨x, y, rfl, rfl, hx, hy, rfl⟩
  case round =>
    obtain ⟨a, b, rfl, rfl, ha, hb, hg⟩ := hrel
    have HG := Lib.hid hg
    clear hg
    by_cases h0 : b = 0
    · have HE : Hid ((a.natAbs : Int) = (Int.gcd x y : Int)) := by
        have := HG.out
        rw [h0, Int.gcd_zero_right] at this
        exact congrArg _ this
      have h0' : (b != 0) = false := by simp [h0]
      obtain ⟨_, _⟩ := ha
      clear h0
      have hw : IntKind.i64.wrap (-a) = -a := IntWalk.i64_in _ (by omega)
      go_wp2
      all_goals go_ret
      all_goals exact ⟨ret_int (by rw [← HE.out]; omega), rfl⟩
    · obtain ⟨hm, hlt⟩ := tmod_mid (a := a) h0 hb
      have HS := Lib.hid ((gcd_step a b).trans HG.out)
      have HM := Lib.hid hm
      have h0' : (b != 0) = true := by simp [h0]
      have h0'' : (b == 0) = false := by simp [h0]
      have hw : IntKind.i64.wrap (a.tmod b) = a.tmod b := IntWalk.i64_in _ (by unfold Mid at hm; omega)
      obtain ⟨_, _⟩ := ha
      have HB := Lib.hid hb
      obtain ⟨_, _⟩ := hb
      clear hm h0
      go_wp2
      go_round
      case rel => exact ⟨b, a.tmod b, rfl, rfl, HB.out, HM.out, HS.out⟩
      case measure => simpa [intOf] using hlt

/-- what both numbers are divided by -/
def dv (p q : Int) : Int := if q < 0 ∨ (q = 0 ∧ p < 0) then -(Int.gcd p q : Int) else (Int.gcd p q : Int)
def lowP (p q : Int) : Int := p.tdiv (dv p q)
def lowQ (p q : Int) : Int := q.tdiv (dv p q)
theorem gcd_facts {p q : Int} (h : ¬ (p = 0 ∧ q = 0)) (hp : Mid p) (hq : Mid q) : 1 ≤ (Int.gcd p q : Int) ∧ (Int.gcd p q : Int) ≤ 4000000000000000000 := by
  have h1 : 0 < Int.gcd p q := by
    rcases Nat.eq_zero_or_pos (Int.gcd p q) with h0 | h0
    · rw [Int.gcd_eq_zero_iff] at h0; exact absurd h0 h
    · exact h0
  refine ⟨by omega, ?_⟩
  unfold Mid at hp hq
  by_cases e : p = 0
  · have := Nat.le_of_dvd (show 0 < q.natAbs by omega) (Int.gcd_dvd_natAbs_right p q)
    omega
  · have := Nat.le_of_dvd (show 0 < p.natAbs by omega) (Int.gcd_dvd_natAbs_left p q)
    omega
theorem tdiv_bd {x d : Int} (hx : Mid x) : Mid (x.tdiv d) := by
  have h1 : (x.tdiv d).natAbs = x.natAbs / d.natAbs := Int.natAbs_tdiv x d
  have h2 : x.natAbs / d.natAbs ≤ x.natAbs := Nat.div_le_self _ _
  unfold Mid at *
  omega

theorem commonDivisor_is (g x y : Int) (hg : (Int.gcd x y : Int) = g) (hx : Mid x) (hy : Mid y) (w : World) :
    Calls Tryd.prog 77 #[(.int .i64 x), (.int .i64 y)] w fun e w' => e = .returned (.int .i64 g) ∧ Below w.heap.size w w' := hg ▸ commonDivisor_any x y hx hy w
theorem l01Gcd_is (g x y : Int) (hg : (Int.gcd x y : Int) = g) (hx : Mid x) (hy : Mid y) (w : World) :
    Calls Tryd.prog 85 #[(.int .i64 x), (.int .i64 y)] w fun e w' => e = .returned (.int .i64 g) ∧ w = w' := hg ▸ l01Gcd_any x y hx hy w

end Go.Proofs.YtfchfakkbdfajaaDoor
