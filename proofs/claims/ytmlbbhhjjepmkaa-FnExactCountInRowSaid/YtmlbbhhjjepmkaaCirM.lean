/- How many fractions a row has: mathematics. -/
import Derived.Test.YtmlbbhhjjepmkaaRowH
namespace Go.Proofs.Ytmlbbhhjjepmkaa
open Go.ChangeShapes Go.WideShapes Go.ChangeAt Go.RowKit

/-- What belongs into the row of n. -/
def inRow (n : Int) (x : Int × Int) : Prop := 0 ≤ x.1 ∧ x.1 ≤ x.2 ∧ 1 ≤ x.2 ∧ x.2 ≤ n ∧ Int.gcd x.1 x.2 = 1
theorem gcd_of_det {p q r s : Int} (h : r * q - p * s = 1) : Int.gcd r s = 1 := by
  have h1 : ((Int.gcd r s : Int)) ∣ 1 := by
    obtain ⟨a, ha⟩ := Int.gcd_dvd_left r s
    obtain ⟨b, hb⟩ := Int.gcd_dvd_right r s
    refine ⟨a * q - p * b, ?_⟩
    rw [← h]
    have e1 : r * q = (Int.gcd r s : Int) * a * q := congrArg (· * q) ha
    have e2 : p * s = p * ((Int.gcd r s : Int) * b) := congrArg (p * ·) hb
    rw [e1, e2]
    grind
  have := Int.le_of_dvd (by omega) h1
  have h0 : Int.gcd r s ≠ 0 := fun e => by
    rw [e] at h1
    obtain ⟨k, hk⟩ := h1
    simp at hk
  omega
theorem rowT_gt {n : Int} : ∀ (f : Nat) (p q r s : Int), Row n p q r s → ∀ x ∈ rowT n f p q r s, p * x.2 < x.1 * q ∧ inRow n x
  | 0, _, _, _, _, _, x, hx => by simp [rowT] at hx
  | f + 1, p, q, r, s, h, x, hx => by
    rw [rowT] at hx
    by_cases hne : p = 1 ∧ q = 1
    · rw [if_pos hne] at hx; simp at hx
    · rw [if_neg hne] at hx
      have hst := h.step hne
      have hd := h.det
      rcases List.mem_cons.1 hx with h1 | h1
      · subst h1
        exact ⟨by simp only; omega, hst.p0, hst.pq, hst.q1, hst.qn, gcd_of_det hd⟩
      · obtain ⟨h2, h3⟩ := rowT_gt f _ _ _ _ hst x h1
        refine ⟨?_, h3⟩
        have hx2 := h3.2.2.1
        have hq := h.q1
        have hs := h.s1
        have e1 : p * x.2 * s + x.2 = q * (r * x.2) := by
          have : p * x.2 * s + x.2 = x.2 * (p * s + 1) := by grind
          rw [this, show p * s + 1 = r * q by omega]
          grind
        have e2 : q * (r * x.2) ≤ q * (x.1 * s) := Int.mul_le_mul_of_nonneg_left (by omega) (by omega)
        have e3 : (p * x.2) * s < (x.1 * q) * s := by
          have : (x.1 * q) * s = q * (x.1 * s) := by grind
          omega
        exact Int.lt_of_mul_lt_mul_right e3 (by omega)
theorem rowT_nodup {n : Int} : ∀ (f : Nat) (p q r s : Int), Row n p q r s → ((p, q) :: rowT n f p q r s).Nodup
  | 0, _, _, _, _, _ => by simp [rowT]
  | f + 1, p, q, r, s, h => by
    refine List.nodup_cons.2 ⟨fun hm => ?_, ?_⟩
    · have := (rowT_gt (f + 1) p q r s h (p, q) hm).1
      simp only at this
      omega
    · rw [rowT]
      by_cases hne : p = 1 ∧ q = 1
      · rw [if_pos hne]; exact List.nodup_nil
      · rw [if_neg hne]
        exact rowT_nodup f _ _ _ _ (h.step hne)
theorem rowAll_mem {n : Int} (h1 : 1 ≤ n) (x : Int × Int) : x ∈ rowAll n ↔ inRow n x := by
  constructor
  · intro h
    rcases List.mem_cons.1 h with h2 | h2
    · subst h2
      exact ⟨by simp, by simp, by simp, h1, by simp⟩
    · exact (rowT_gt _ _ _ _ _ (Row.start h1) x h2).2
  · rintro ⟨h2, h3, h4, h5, h6⟩
    obtain ⟨pre, r, s, hst⟩ := row_met h2 h3 h4 h5 h6
    exact hst.pre.subset (by simp)
theorem rowAll_nodup {n : Int} (h1 : 1 ≤ n) : (rowAll n).Nodup := rowT_nodup _ _ _ _ _ (Row.start h1)

/-- those with the second number q, and a first one of 1 to k -/
def pl (q : Int) : Nat → List (Int × Int)
  | 0 => []
  | k + 1 => pl q k ++ (if Int.gcd ((k + 1 : Nat) : Int) q = 1 then [(((k + 1 : Nat) : Int), q)] else [])
def ql : Nat → List (Int × Int)
  | 0 => [(0, 1)]
  | m + 1 => ql m ++ pl ((m + 1 : Nat) : Int) (m + 1)
theorem pl_mem (q : Int) : ∀ (k : Nat) (x : Int × Int), x ∈ pl q k ↔ 1 ≤ x.1 ∧ x.1 ≤ k ∧ x.2 = q ∧ Int.gcd x.1 q = 1
  | 0, x => by simp [pl]; omega
  | k + 1, x => by
    rw [pl, List.mem_append, pl_mem q k x]
    constructor
    · rintro (h | h)
      · exact ⟨h.1, by omega, h.2.2⟩
      · split at h
        · rw [List.mem_singleton] at h
          subst h
          rename_i hg
          exact ⟨by simp only; omega, by simp only; omega, rfl, hg⟩
        · simp at h
    · rintro ⟨h1, h2, h3, h4⟩
      rcases (show x.1 ≤ k ∨ x.1 = ((k + 1 : Nat) : Int) by omega) with h | h
      · exact .inl ⟨h1, h, h3, h4⟩
      · refine .inr ?_
        rw [← h, if_pos h4, ← h3]
        simp
theorem pl_nodup (q : Int) : ∀ k : Nat, (pl q k).Nodup
  | 0 => by simp [pl]
  | k + 1 => by
    rw [pl]
    refine List.nodup_append.2 ⟨pl_nodup q k, by split <;> simp, fun a ha b hb => ?_⟩
    rintro rfl
    have h1 := ((pl_mem q k a).1 ha).2.1
    split at hb
    · rw [List.mem_singleton] at hb
      subst hb
      simp only at h1; omega
    · simp at hb
theorem ql_mem : ∀ (m : Nat) (x : Int × Int), x ∈ ql m ↔ x = (0, 1) ∨ (1 ≤ x.1 ∧ x.1 ≤ x.2 ∧ x.2 ≤ m ∧ Int.gcd x.1 x.2 = 1)
  | 0, x => by
    rw [ql, List.mem_singleton]
    constructor
    · exact .inl
    · rintro (h | h)
      · exact h
      · omega
  | m + 1, x => by
    rw [ql, List.mem_append, ql_mem m x, pl_mem]
    constructor
    · rintro ((h | h) | h)
      · exact .inl h
      · exact .inr ⟨h.1, h.2.1, by omega, h.2.2.2⟩
      · exact .inr ⟨h.1, by rw [h.2.2.1]; exact h.2.1, by omega, by rw [h.2.2.1]; exact h.2.2.2⟩
    · rintro (h | ⟨h1, h2, h3, h4⟩)
      · exact .inl (.inl h)
      · rcases (show x.2 ≤ m ∨ x.2 = ((m + 1 : Nat) : Int) by omega) with h | h
        · exact .inl (.inr ⟨h1, h2, h, h4⟩)
        · exact .inr ⟨h1, by omega, h, by rw [← h]; exact h4⟩
theorem ql_nodup : ∀ m : Nat, (ql m).Nodup
  | 0 => by simp [ql]
  | m + 1 => by
    rw [ql]
    refine List.nodup_append.2 ⟨ql_nodup m, pl_nodup _ _, fun a ha b hb => ?_⟩
    rintro rfl
    have h2 := (pl_mem _ _ _).1 hb
    rcases (ql_mem m a).1 ha with h1 | h1
    · subst h1
      simp at h2
    · omega
theorem ql_all (m : Nat) (h : 1 ≤ m) (x : Int × Int) : x ∈ ql m ↔ inRow (m : Int) x := by
  rw [ql_mem]
  constructor
  · rintro (h1 | ⟨h1, h2, h3, h4⟩)
    · subst h1
      exact ⟨by simp, by simp, by simp, by simp only; omega, by simp⟩
    · exact ⟨by omega, h2, by omega, h3, h4⟩
  · rintro ⟨h1, h2, h3, h4, h5⟩
    rcases (show x.1 = 0 ∨ 1 ≤ x.1 by omega) with h6 | h6
    · rw [h6, Int.gcd_zero_left] at h5
      refine .inl (Prod.ext h6 ?_)
      show x.2 = 1
      omega
    · exact .inr ⟨h6, h2, h4, h5⟩
theorem sub_len : ∀ (l1 l2 : List (Int × Int)), l1.Nodup → (∀ x ∈ l1, x ∈ l2) → l1.length ≤ l2.length
  | [], _, _, _ => Nat.zero_le _
  | a :: t, l2, hn, hs => by
    obtain ⟨h1, h2⟩ := List.nodup_cons.1 hn
    have ha := hs a (by simp)
    have hl := List.length_erase_of_mem ha
    have hp := List.length_pos_of_mem ha
    have := sub_len t (l2.erase a) h2 fun x hx => (List.mem_erase_of_ne (fun e => h1 (by rw [← e]; exact hx))).2 (hs x (by simp [hx]))
    simp only [List.length_cons]
    omega
theorem ql_len (m : Nat) (h : 1 ≤ m) : (ql m).length = (rowAll (m : Int)).length := by
  refine Nat.le_antisymm (sub_len _ _ (ql_nodup m) fun x hx => ?_) (sub_len _ _ (rowAll_nodup (by omega)) fun x hx => ?_)
  · exact (rowAll_mem (by omega) x).2 ((ql_all m h x).1 hx)
  · exact (ql_all m h x).2 ((rowAll_mem (by omega) x).1 hx)
theorem pl_len (q : Int) : ∀ k : Nat, (pl q k).length ≤ k
  | 0 => by simp [pl]
  | k + 1 => by
    have := pl_len q k
    rw [pl, List.length_append]
    split <;> simp <;> omega
theorem pl_next (q : Int) (k : Nat) : (pl q (k + 1)).length = (pl q k).length + (if Int.gcd ((k + 1 : Nat) : Int) q = 1 then 1 else 0) := by
  rw [pl, List.length_append]
  split <;> simp
theorem ql_le : ∀ m : Nat, (ql m).length ≤ 1 + m * m
  | 0 => by simp [ql]
  | m + 1 => by
    have h1 := ql_le m
    have h2 := pl_len ((m + 1 : Nat) : Int) (m + 1)
    rw [ql, List.length_append]
    have : (m + 1) * (m + 1) = m * m + 2 * m + 1 := by grind
    omega
end Go.Proofs.Ytmlbbhhjjepmkaa
