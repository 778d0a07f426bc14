/- What both sides of chapter 7 answer, at all numbers: for the laws over draws. -/
import Derived.Test.YthggpcdbnopabaaDdM
import Derived.Test.YthggpcdbnopabaaEqS
import Derived.Test.YthggpcdbnopabaaSmS
import Derived.Test.YthggpcdbnopabaaToA
import Derived.Test.YthggpcdbnopabaaLSaw
import Derived.Test.YthggpcdbnopabaaRcp
import Derived.Test.YthggpcdbnopabaaFrOf
namespace Go.Proofs.Ythggpcdbnopabaa
open Go.ChangeShapes Go.WideShapes Go.ChangeAt Go.RowKit

def RetFc (x y c : Int) (w : World) (e : Ending) (w' : World) : Prop := e = .returned (.tuple #[(.agg #[.int .i64 x, .int .i64 y]), (.int .i64 c)]) ∧ Below w.heap.size w w'
theorem range_cases {h k m : Int} (hr : ¬ (inW h 1000000000 = true ∧ inR k 1 m = true)) : inW h 1000000000 = false ∨ (inW h 1000000000 = true ∧ inR k 1 m = false) := by
  cases h1 : inW h 1000000000 <;> cases h2 : inR k 1 m <;> simp_all
theorem ded_any (h k : Int) : ∃ x y c, (∀ w, Calls Try.prog 7 #[(.int .i64 h), (.int .i64 k)] w (RetFc x y c w)) ∧ (∀ w, Calls Try.prog 6 #[(.int .i64 h), (.int .i64 k)] w (RetFc x y c w)) ∧
    ((c = 0 ∧ Ent h ∧ 1 ≤ k ∧ k ≤ 20000 ∧ Int.gcd h k = 1 ∧ lowP (ls h k) (12 * k) = x ∧ lowQ (ls h k) (12 * k) = y) ∨ ¬ c = 0) := by
  by_cases hr : inW h 1000000000 = true ∧ inR k 1 20000 = true
  · obtain ⟨h1, h2⟩ := hr
    have h2' : 1 ≤ k ∧ k ≤ 20000 := of_decide_eq_true h2
    by_cases hg : Int.gcd h k = 1
    · exact ⟨_, _, 0, fun w => specDed_yes h k _ _ h1 h2 hg rfl rfl w, fun w => implDed_yes h k _ _ h1 h2 hg rfl rfl w, .inl ⟨rfl, ent_iff.1 h1, h2'.1, h2'.2, hg, rfl, rfl⟩⟩
    · have h3 : ¬ ((Int.gcd h k : Nat) : Int) = 1 := by omega
      exact ⟨0, 0, 5, fun w => specDed_no h k 5 rfl (fun w => l07Code_state h k 20000 _ h1 h2 (by omega) rfl h3 w) w, fun w => implDed_state h k _ h1 h2 rfl h3 w, .inr (by omega)⟩
  · have hr := range_cases hr
    exact ⟨0, 0, 2, fun w => specDed_no h k 2 rfl (fun w => l07Code_range h k 20000 hr w) w, fun w => implDed_range h k hr w, .inr (by omega)⟩
theorem implDed_at (h k x y : Int) (h0 : Ent h) (h1 : 1 ≤ k) (h2 : k ≤ 20000) (hg : Int.gcd h k = 1) (hx : lowP (ls h k) (12 * k) = x) (hy : lowQ (ls h k) (12 * k) = y) (w : World) : Calls Try.prog 6 #[(.int .i64 h), (.int .i64 k)] w (RetFc x y 0 w) :=
  implDed_yes h k x y (ent_iff.2 h0) (decide_eq_true ⟨h1, h2⟩) hg hx hy w
theorem rcp_any (h k : Int) : ∃ x y c, (∀ w, Calls Try.prog 10 #[(.int .i64 h), (.int .i64 k)] w (RetFc x y c w)) ∧ (∀ w, Calls Try.prog 9 #[(.int .i64 h), (.int .i64 k)] w (RetFc x y c w)) ∧
    ((c = 0 ∧ 1 ≤ h ∧ h ≤ 20000 ∧ 1 ≤ k ∧ k ≤ 20000 ∧ Int.gcd h k = 1 ∧ lowP (h * h + k * k + 1 - 3 * h * k) (12 * h * k) = x ∧ lowQ (h * h + k * k + 1 - 3 * h * k) (12 * h * k) = y) ∨ ¬ c = 0) := by
  by_cases hr : 1 ≤ h ∧ h ≤ 20000
  · have hh : inR h 1 20000 = true := decide_eq_true hr
    have hw : inW h 1000000000 = true := ent_iff.2 (by unfold Ent; omega)
    by_cases kr : 1 ≤ k ∧ k ≤ 20000
    · have kk : inR k 1 20000 = true := decide_eq_true kr
      by_cases hg : Int.gcd h k = 1
      · exact ⟨_, _, 0, fun w => specRcp_yes h k _ _ hr.1 hr.2 kr.1 kr.2 hg rfl rfl w, fun w => implRcp_yes h k _ _ hr.1 hr.2 kr.1 kr.2 hg rfl rfl w, .inl ⟨rfl, hr.1, hr.2, kr.1, kr.2, hg, rfl, rfl⟩⟩
      · have h3 : ¬ ((Int.gcd h k : Nat) : Int) = 1 := by omega
        exact ⟨0, 0, 5, fun w => specRcp_no h k 5 hh rfl (fun w => l07Code_state h k 20000 _ hw kk (by omega) rfl h3 w) w, fun w => implRcp_state h k _ hr.1 hr.2 kr.1 kr.2 rfl h3 w, .inr (by omega)⟩
    · exact ⟨0, 0, 2, fun w => specRcp_no h k 2 hh rfl (fun w => l07Code_range h k 20000 (.inr ⟨hw, decide_eq_false kr⟩) w) w, fun w => implRcp_range h k (by omega) w, .inr (by omega)⟩
  · exact ⟨0, 0, 2, fun w => specRcp_h h k (decide_eq_false hr) w, fun w => implRcp_range h k (by omega) w, .inr (by omega)⟩
theorem eq_any (h k : Int) : ∃ xs c, (∀ w, Calls Try.prog 14 #[(.int .i64 h), (.int .i64 k)] w (RetE xs c w)) ∧ (∀ w, Calls Try.prog 13 #[(.int .i64 h), (.int .i64 k)] w (RetE xs c w)) ∧ xs.length ≤ 100 ∧
    ((c = 0 ∧ Ent h ∧ 1 ≤ k ∧ k ≤ 100 ∧ Int.gcd h k = 1 ∧ xs = eqL h k (cop k k.toNat)) ∨ ¬ c = 0) := by
  by_cases hr : inW h 1000000000 = true ∧ inR k 1 100 = true
  · obtain ⟨h1, h2⟩ := hr
    have k2 : 1 ≤ k ∧ k ≤ 100 := of_decide_eq_true h2
    have h2' : inR k 1 20000 = true := decide_eq_true ⟨k2.1, by omega⟩
    by_cases hg : Int.gcd h k = 1
    · have l1 := cop_len k k.toNat
      have l2 := eqL_len h k (cop k k.toNat)
      exact ⟨_, 0, fun w => specEq_yes h k k.toNat (by omega) h1 k2.1 k2.2 hg w, fun w => implEq_yes h k k.toNat _ (by omega) h1 k2.1 k2.2 hg rfl w, by omega, .inl ⟨rfl, ent_iff.1 h1, k2.1, k2.2, hg, rfl⟩⟩
    · have h3 : ¬ ((Int.gcd h k : Nat) : Int) = 1 := by omega
      exact ⟨[], 5, fun w => specEq_no h k 5 rfl (fun w => l07Code_state h k 100 _ h1 h2 (by omega) rfl h3 w) w, fun w => implEq_no h k 5 (by omega) rfl (fun w => implDed_state h k _ h1 h2' rfl h3 w) w, by simp, .inr (by omega)⟩
  · have hr := range_cases hr
    refine ⟨[], 2, fun w => specEq_no h k 2 rfl (fun w => l07Code_range h k 100 hr w) w, fun w => ?_, by simp, .inr (by omega)⟩
    by_cases hk : 100 < k
    · exact implEq_big h k hk w
    · refine implEq_no h k 2 hk rfl (fun w => implDed_range h k ?_ w) w
      rcases hr with h1 | ⟨h1, h2⟩
      · exact .inl h1
      · refine .inr ⟨h1, ?_⟩
        have : ¬ (1 ≤ k ∧ k ≤ 100) := of_decide_eq_false h2
        exact decide_eq_false (by omega)
theorem sums_any (k : Int) : ∃ n xs c, n ≤ 100 ∧ (∀ w, Calls Try.prog 19 #[(.int .i64 k)] w (RetFs n xs c w)) ∧ (∀ w, Calls Try.prog 18 #[(.int .i64 k)] w (RetFs n xs c w)) := by
  by_cases h : 1 ≤ k ∧ k ≤ 100
  · have h1 := cop_len k k.toNat
    exact ⟨_, _, 0, by omega, fun w => specSums_yes k k.toNat _ (by omega) h.1 h.2 rfl w, fun w => implSums_yes k k.toNat _ (by omega) h.1 h.2 rfl w⟩
  · exact ⟨0, [], 2, by omega, fun w => specSums_no k (decide_eq_false h) w, fun w => implSums_no k h w⟩
theorem tot_any (k : Int) : ∃ x y c, (∀ w, Calls Try.prog 22 #[(.int .i64 k)] w (RetFc x y c w)) ∧ (∀ w, Calls Try.prog 21 #[(.int .i64 k)] w (RetFc x y c w)) := by
  by_cases h : 1 ≤ k ∧ k ≤ 12
  · obtain ⟨K, hK⟩ : ∃ K : Nat, (K : Int) = k := ⟨k.toNat, by omega⟩
    have he := tot_eq h.1 K
    exact ⟨_, _, 0, fun w => specTot_yes k _ _ K hK h.1 h.2 rfl rfl w, fun w => implTot_yes k _ _ K hK h.1 h.2 he.1 he.2 w⟩
  · exact ⟨0, 0, 2, fun w => specTot_no k (decide_eq_false h) w, fun w => implTot_no k h w⟩
theorem saw_any (p q : Int) : ∃ x y c, (∀ w, Calls Try.prog 25 #[(.agg #[.int .i64 p, .int .i64 q])] w (RetFc x y c w)) ∧ (∀ w, Calls Try.prog 24 #[(.agg #[.int .i64 p, .int .i64 q])] w (RetFc x y c w)) := by
  rcases h : isF p q with _ | _
  · exact ⟨0, 0, 1, fun w => specSaw_no p q h w, fun w => implSaw_no p q h w⟩
  have hq := (isF_bd h).2.1
  rcases (show q = 0 ∨ q = 1 ∨ 1 < q by omega) with rfl | rfl | h1
  · exact ⟨0, 0, 5, fun w => specSaw_inf p h w, fun w => implSaw_inf p h w⟩
  · exact ⟨0, 1, 0, fun w => specSaw_one p h w, fun w => implSaw_yes true p 1 0 1 h (by omega) (saw_one p).1 (saw_one p).2 (by decide) w⟩
  · exact ⟨_, _, _, fun w => specSaw_yes _ p q _ _ h h1 rfl rfl rfl w, fun w => implSaw_yes _ p q _ _ h (by omega) rfl rfl rfl w⟩
/-- a fraction of two numbers, or an error -/
theorem frOf_any (p q : Int) : ∃ x y c, (∀ w, Calls Try.prog 11 #[(.int .i64 p), (.int .i64 q)] w (RetFc x y c w)) ∧ ((c = 0 ∧ lowP p q = x ∧ lowQ p q = y) ∨ ¬ c = 0) := by
  rcases hp : inW p 1000000000 with _ | _
  · exact ⟨0, 0, 2, fun w => implFrOf_range p q (.inl hp) w, .inr (by omega)⟩
  rcases hq : inW q 1000000000 with _ | _
  · exact ⟨0, 0, 2, fun w => implFrOf_range p q (.inr ⟨hp, hq⟩) w, .inr (by omega)⟩
  by_cases h0 : p = 0 ∧ q = 0
  · obtain ⟨rfl, rfl⟩ := h0
    exact ⟨0, 0, 5, fun w => implFrOf_zero w, .inr (by omega)⟩
  · exact ⟨_, _, 0, fun w => implFrOf_yes p q hp hq h0 w, .inl ⟨rfl, rfl, rfl⟩⟩
end Go.Proofs.Ythggpcdbnopabaa
