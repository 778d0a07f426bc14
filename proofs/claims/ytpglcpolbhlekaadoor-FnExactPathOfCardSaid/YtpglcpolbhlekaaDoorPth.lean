/- The path of a fraction, letter by letter, is what its runs spell: mathematics. -/
import Derived.Test.YtpglcpolbhlekaaDoorPrW
import Derived.Test.YtpglcpolbhlekaaDoorSpl
namespace Go.Proofs.YtpglcpolbhlekaaDoor
open Go.ChangeShapes Go.WideShapes Go.ChangeAt Go.RowKit

def nums (l : List UInt8) : List Int := l.map fun b => (b.toNat : Int)
theorem pth_unique {x y : Int} {l : List Int} (h : Pth x y l) : ∀ l', Pth x y l' → l = l' := by
  induction h with
  | stop x =>
    intro l' h'
    cases h' with
    | stop => rfl
    | left h _ => omega
    | right h _ => omega
  | left h hl ih =>
    intro l' h'
    cases h' with
    | stop => omega
    | left _ hl' => rw [ih _ hl']
    | right h' _ => omega
  | right h hl ih =>
    intro l' h'
    cases h' with
    | stop => omega
    | left h' _ => omega
    | right _ hl' => rw [ih _ hl']
theorem pth_len {x y : Int} {l : List Int} (h : Pth x y l) : 0 < x → 0 < y → (l.length : Int) + 2 ≤ x + y := by
  induction h with
  | stop x => intro h1 h2; simp; omega
  | left h hl ih => intro h1 h2; have := ih h1 (by omega); simp; omega
  | right h hl ih => intro h1 h2; have := ih (by omega) h2; simp; omega
def sw (l : List Int) : List Int := l.map fun c => if c = 76 then 82 else 76
theorem pth_sw {x y : Int} {l : List Int} (h : Pth x y l) : Pth y x (sw l) := by
  induction h with
  | stop x => exact .stop x
  | left h hl ih => exact .right h ih
  | right h hl ih => exact .left h ih
theorem rep_right (k : Nat) (x y : Int) (l : List Int) (hx : 0 < x) (hy : 0 < y) (h : Pth x y l) : Pth (x + k * y) y (List.replicate k 82 ++ l) := by
  induction k with
  | zero => simpa using h
  | succ k ih =>
    have h1 : ((k + 1 : Nat) : Int) * y = k * y + y := by push_cast; rw [Int.add_mul, Int.one_mul]
    have h2 : 0 ≤ (k : Int) * y := Int.mul_nonneg (by omega) (by omega)
    rw [h1, List.replicate_succ, List.cons_append]
    refine .right (by omega) ?_
    rw [show x + ((k : Int) * y + y) - y = x + k * y by omega]
    exact ih
theorem nums_append (a b : List UInt8) : nums (a ++ b) = nums a ++ nums b := by simp [nums]
theorem nums_rep (c : UInt8) (n : Nat) : nums (Lib.repeatL [c] n) = List.replicate n (c.toNat : Int) := by
  induction n with
  | zero => rfl
  | succ n ih =>
    have : Lib.repeatL [c] (n + 1) = c :: Lib.repeatL [c] n := rfl
    rw [this, List.replicate_succ, ← ih]
    rfl
theorem spell_sw (xs : List Int) : nums (spellB [76] [82] xs) = sw (nums (spellB [82] [76] xs)) ∧ nums (spellB [82] [76] xs) = sw (nums (spellB [76] [82] xs)) := by
  induction xs with
  | nil => exact ⟨rfl, rfl⟩
  | cons x r ih =>
    constructor
    · rw [spellB, spellB, nums_append, nums_append, ih.2, nums_rep, nums_rep]
      simp [sw]
    · rw [spellB, spellB, nums_append, nums_append, ih.1, nums_rep, nums_rep]
      simp [sw]
theorem spellN_len (f s : UInt8) (xs : List Int) (h : ∀ x ∈ xs, 0 ≤ x) : ((spellB [f] [s] xs).length : Int) = sumI xs := by
  induction xs generalizing f s with
  | nil => rfl
  | cons x r ih =>
    have h0 := h x (by simp)
    have hl : (Lib.repeatL [f] x.toNat).length = x.toNat := by
      have := congrArg List.length (nums_rep f x.toNat)
      simpa [nums] using this
    rw [spellB, List.length_append, sumI, hl]
    have := ih s f (fun x hx => h x (by simp [hx]))
    push_cast
    omega
theorem way_cf : ∀ (f : Nat) (p q : Int), 0 < q → q.natAbs ≤ f → 0 < p → Int.gcd p q = 1 → ¬ (p = 1 ∧ q = 1) → Pth p q (nums (spellB [82] [76] (decL (cfL f p q)))) ∧ 0 < (cfL f p q).length := by
  intro f
  induction f with
  | zero => intro p q h0 hf; omega
  | succ f ih =>
    intro p q h0 hf hp hg hne
    have e0 : cfL (f + 1) p q = p / q :: cfL f q (p - p / q * q) := by rw [cfL, if_neg (by omega), fl_pos h0]
    have em := Int.mul_ediv_add_emod p q
    rw [Int.mul_comm] at em
    have r1 := Int.emod_nonneg p (show q ≠ 0 by omega)
    have r2 := Int.emod_lt_of_pos p h0
    have er : p - p / q * q = p % q := by omega
    have en : 0 ≤ p / q := Int.ediv_nonneg (Int.le_of_lt hp) (by omega)
    rw [er] at e0
    rw [e0]
    generalize hr : p % q = r at *
    generalize hn : p / q = n at *
    have hgr : Int.gcd q r = 1 := by
      have : p = q * n + r := by rw [Int.mul_comm]; omega
      rw [this, Int.gcd_comm] at hg
      simpa using hg
    rcases (show r = 0 ∨ 0 < r by omega) with h | h
    · subst h
      have hq1 : q = 1 := by rw [Int.gcd_zero_right] at hgr; omega
      subst hq1
      rw [cf_zero]
      have hp2 : n = p := by omega
      subst hp2
      refine ⟨?_, by simp⟩
      rw [decL, spellB, spellB, List.append_nil, nums_rep]
      have := rep_right (n - 1).toNat 1 1 [] (by omega) (by omega) (.stop 1)
      rw [show (1 : Int) + ((n - 1).toNat : Int) * 1 = n by omega, List.append_nil] at this
      exact this
    · obtain ⟨h1, h3⟩ := ih q r h (by omega) h0 hgr (by omega)
      obtain ⟨y, ys, hy⟩ : ∃ y ys, cfL f q r = y :: ys := by
        cases hc : cfL f q r with
        | nil => rw [hc] at h3; simp at h3
        | cons y ys => exact ⟨y, ys, rfl⟩
      rw [hy] at h1 ⊢
      refine ⟨?_, by simp⟩
      rw [decL, spellB, nums_append, nums_rep, (spell_sw _).1]
      have := rep_right n.toNat r q _ h h0 (pth_sw h1)
      rw [show r + (n.toNat : Int) * q = p by rw [show (n.toNat : Int) = n by omega]; omega] at this
      exact this
/-- the conversion of bytes that a call made by append -/
theorem conv_gr {w : World} {L : Nat} {v : Value} {l : List UInt8} (h : GrB w L v (nums l)) : (convert 53 9 v).run Tryd.prog w = .ok (.string ⟨l.toArray⟩) w := by
  have hlen : (nums l).length = l.length := by simp [nums]
  obtain ⟨hl, ⟨rfl, h0⟩ | ⟨g, cap, cur, rfl, hg, hh, hn, _, hsz, ht⟩⟩ := h
  · have : l = [] := List.eq_nil_of_length_eq_zero (by rw [← hlen]; exact h0)
    subst this
    have := run_convert_bytes_string (P := Tryd.prog) w 53 9 5 none 0 0 Tryd.underlying53 Tryd.underlying5 Tryd.underlying9
    rw [this]
    rfl
  · rw [hlen]
    refine run_convert_bytes_back (P := Tryd.prog) w 53 9 5 ⟨g, 0, none⟩ cap l Tryd.underlying53 Tryd.underlying5 Tryd.underlying9 fun j hj => ?_
    have hc : cur.toList[j]? = some (.int .u8 (l[j].toNat : Int)) := by
      have h1 : (cur.toList.take ((nums l).length * 1))[j]? = ((nums l).map fun x => Value.int .u8 x)[j]? := by rw [ht]
      rw [List.getElem?_take_of_lt (by omega)] at h1
      rw [h1]
      simp [nums, List.getElem?_eq_getElem hj]
    have hc' : cur[j]? = some (.int .u8 (l[j].toNat : Int)) := by rw [← Array.getElem?_toList]; exact hc
    rw [show (⟨g, 0, none⟩ : Addr).add j = ⟨g, j, none⟩ by unfold Addr.add; split <;> simp_all]
    simp [World.cell?, hh, hc']
end Go.Proofs.YtpglcpolbhlekaaDoor
