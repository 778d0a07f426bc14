/- Contracts of IsFraction. -/
import Derived.Test.YtkeadknbdihkmaaDoorA
import Derived.Test.YtkeadknbdihkmaaDoorLow
namespace Go.Proofs.YtkeadknbdihkmaaDoor
open Go.ChangeShapes Go.WideShapes Go.ChangeAt Go.RowKit

/-- two numbers are those of a fraction -/
def isF (p q : Int) : Bool := decide (Ent p ∧ 0 ≤ q ∧ q ≤ 1000000000 ∧ Int.gcd p q = 1 ∧ (0 < q ∨ p = 1))
theorem ent_mid' {x : Int} (h : Ent x) : Mid x := by unfold Ent at h; unfold Mid; omega

theorem eq_fr (a b e f : Int) (w : World) : (Op.equalIn 10000 50 (.agg #[.int .i64 a, .int .i64 b]) (.agg #[.int .i64 e, .int .i64 f])).run Tryd.prog w = .ok (decide (a = e ∧ b = f)) w := by
  have u3 := Tryd.underlying2
  have a3 := Tryd.isAgg2
  have z3 := Tryd.sizeOf2
  rw [show (10000 : Nat) = 9999 + 1 from rfl, Op.equalIn]
  simp only [Sem.run_bind, run_underlying Tryd.underlying50, Result.andThen_ok]
  simp only [Std.Legacy.Range.forIn_eq_forIn_range', Std.Legacy.Range.size, Nat.sub_zero, Nat.add_sub_cancel, Nat.div_one, List.range'_succ, List.range'_zero, List.forIn_cons, List.forIn_nil]
  go_simp
  by_cases h1 : a = e <;> by_cases h2 : b = f <;> simp [h1, h2]
theorem eq_fr_is (r : Bool) (a b e f : Int) (hr : decide (a = e ∧ b = f) = r) (w : World) : (Op.equalIn 10000 50 (.agg #[.int .i64 a, .int .i64 b]) (.agg #[.int .i64 e, .int .i64 f])).run Tryd.prog w = .ok r w := hr ▸ eq_fr a b e f w

theorem allW2_is (r : Bool) (a b : Int) (g : Nat) (w : World) (hr : allW [a, b] 1000000000 = r)
    (h0 : w.cell? ⟨g, 0, none⟩ = some (.int .i64 a)) (h1 : w.cell? ⟨g, 1, none⟩ = some (.int .i64 b)) :
    Calls Tryd.prog 75 #[.slice (some ⟨g, 0, none⟩) 2 2, .int .i64 1000000000] w fun e w' => e = .returned (.bool r) ∧ w = w' := by
  subst hr
  refine allWithin_any [a, b] 1000000000 (by omega) (by omega) g 0 2 (by simp) w ?_
  intro k hk
  have : k = 0 ∨ k = 1 := by simp at hk; omega
  rcases this with rfl | rfl <;> simpa

/-- In lowest terms: with the divisor 1, and the sign with the first number. -/
theorem low_iff {p q : Int} (h : ¬ (p = 0 ∧ q = 0)) (hp : Mid p) (hq : Mid q) : (lowP p q = p ∧ lowQ p q = q) ↔ (Int.gcd p q = 1 ∧ 0 ≤ q ∧ (0 < q ∨ p = 1)) := by
  obtain ⟨g1, g2⟩ := gcd_facts h hp hq
  unfold lowP lowQ dv
  constructor
  · rintro ⟨h1, h2⟩
    by_cases hs : q < 0 ∨ (q = 0 ∧ p < 0)
    · rw [if_pos hs] at h1 h2
      rw [Int.tdiv_neg] at h1 h2
      rcases hs with hs | ⟨hs, hs'⟩
      · exfalso
        have : 0 ≤ -q.tdiv (Int.gcd p q) := by
          rw [← Int.neg_tdiv]
          exact Int.tdiv_nonneg (by omega) (by omega)
        omega
      · exfalso
        have : 0 ≤ -p.tdiv (Int.gcd p q) := by
          rw [← Int.neg_tdiv]
          exact Int.tdiv_nonneg (by omega) (by omega)
        omega
    · rw [if_neg hs] at h1 h2
      have hq0 : 0 ≤ q := by omega
      have key : ∀ x : Int, x ≠ 0 → x.tdiv (Int.gcd p q) = x → Int.gcd p q = 1 := by
        intro x hx he
        have h3 : (x.tdiv (Int.gcd p q)).natAbs = x.natAbs / Int.gcd p q := Int.natAbs_tdiv x _
        rw [he] at h3
        rcases Nat.lt_or_ge 1 (Int.gcd p q) with h4 | h4
        · have := Nat.div_lt_self (show 0 < x.natAbs by omega) h4
          omega
        · omega
      by_cases hz : q = 0
      · have hp0 : p ≠ 0 := fun e => h ⟨e, hz⟩
        have hg := key p hp0 h1
        refine ⟨hg, hq0, .inr ?_⟩
        rw [hz, Int.gcd_zero_right] at hg
        omega
      · exact ⟨key q hz h2, hq0, .inl (by omega)⟩
  · rintro ⟨h1, h2, h3⟩
    rw [if_neg (by omega), h1]
    simp
theorem isF_iff {p q : Int} (hp : Ent p) (hq : Ent q) (h : ¬ (p = 0 ∧ q = 0)) : isF p q = decide (lowP p q = p ∧ lowQ p q = q) := by
  unfold isF
  have := low_iff h (ent_mid' hp) (ent_mid' hq)
  rw [Bool.eq_iff_iff, decide_eq_true_iff, decide_eq_true_iff, this]
  unfold Ent at hp hq
  unfold Ent
  omega

end Go.Proofs.YtkeadknbdihkmaaDoor
