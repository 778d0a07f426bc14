/- Decimals and parts, as the library reads them: mathematics. -/
import Derived.Test.YtfgbmddmmgipnaaDoorRead
import Derived.Lib.SplitLaws
import Derived.Lib.ParseIntBCases
namespace Go.Proofs.YtfgbmddmmgipnaaDoor
open Go.ChangeShapes Go.WideShapes Go.ChangeAt Go.RowKit

def valA (acc : Nat) (l : List UInt8) : Nat := l.foldl (fun n c => n * 10 + (c.toNat - 48)) acc
theorem valA_le : ∀ (l : List UInt8) (acc : Nat), acc ≤ valA acc l
  | [], acc => Nat.le_refl _
  | c :: r, acc => by
    have := valA_le r (acc * 10 + (c.toNat - 48))
    show acc ≤ valA (acc * 10 + (c.toNat - 48)) r
    omega
theorem parseU_ok (M : Nat) (hM : M ≤ 18446744073709551615) : ∀ (l : List UInt8) (acc : Nat), (∀ c ∈ l, Dig c) → valA acc l ≤ M → Lib.parseUintM M acc l = .ok (valA acc l)
  | [], acc, _, _ => rfl
  | c :: r, acc, hd, hv => by
    have h1 : 48 ≤ c.toNat ∧ c.toNat ≤ 57 := hd c (by simp)
    have h2 : valA acc (c :: r) = valA (acc * 10 + (c.toNat - 48)) r := rfl
    rw [h2] at hv ⊢
    have h3 := valA_le r (acc * 10 + (c.toNat - 48))
    rw [Lib.parseUintM, if_pos h1, if_neg (by omega), if_neg (by omega)]
    exact parseU_ok M hM r _ (fun c hc => hd c (by simp [hc])) hv
theorem valA_val : ∀ (l : List UInt8) (acc : Nat), (∀ c ∈ l, Dig c) → ((valA acc l : Nat) : Int) = l.foldl (fun n c => n * 10 + ((c.toNat : Int) - 48)) (acc : Int)
  | [], acc, _ => rfl
  | c :: r, acc, hd => by
    have h1 := hd c (by simp)
    have := valA_val r (acc * 10 + (c.toNat - 48)) (fun c hc => hd c (by simp [hc]))
    show ((valA (acc * 10 + (c.toNat - 48)) r : Nat) : Int) = _
    rw [this, List.foldl_cons]
    congr 1
    unfold Dig at h1
    omega
theorem parseU_dec (n : Nat) (h : n ≤ 9223372036854775808) : Lib.parseUintB 64 (Lib.decDigits n) = .ok n := by
  obtain ⟨a, _, c, d, _⟩ := dec_props n 19 (by omega)
  unfold Lib.parseUintB
  rw [if_neg (by intro e; rw [e] at c; simp at c)]
  have hv := valA_val (Lib.decDigits n) 0 a
  have e : valA 0 (Lib.decDigits n) = n := by
    have : ((valA 0 (Lib.decDigits n) : Nat) : Int) = n := by rw [hv]; exact d
    omega
  rw [parseU_ok _ (by omega) _ 0 a (by rw [e]; omega), e]
/-- What is written so is read so. -/
theorem parse_itoa (n : Int) (h0 : -9223372036854775808 ≤ n) (h1 : n ≤ 9223372036854775807) : Lib.parseIntB 64 (Lib.itoa n) = .ok n := by
  unfold Lib.itoa
  by_cases h : n < 0
  · rw [if_pos h, Lib.parseIntB_minus, parseU_dec _ (by omega)]
    simp only [Lib.signedC]
    rw [if_neg (by omega)]
    congr 1
    omega
  · rw [if_neg h]
    obtain ⟨a, _, c, _, _⟩ := dec_props n.toNat 19 (by omega)
    have hu := parseU_dec n.toNat (by omega)
    obtain ⟨x, r, hx⟩ : ∃ x r, Lib.decDigits n.toNat = x :: r := by
      cases hd : Lib.decDigits n.toNat with
      | nil => rw [hd] at c; simp at c
      | cons x r => exact ⟨x, r, rfl⟩
    rw [hx] at a hu ⊢
    have hd := a x (by simp)
    unfold Dig at hd
    rw [Lib.parseIntB_plain _ _ _ (by omega) (by omega), hu]
    simp only [Lib.signlessC]
    rw [if_neg (by omega)]
    congr 1
    omega
/-- the first part -/
theorem splitA_index (c : UInt8) : ∀ (l cur : List UInt8), (Lib.indexByte l c = -1 ∧ splitA c cur l = [cur ++ l]) ∨ ∃ i : Nat, Lib.indexByte l c = i ∧ i < l.length ∧ splitA c cur l = (cur ++ l.take i) :: splitA c [] (l.drop (i + 1))
  | [], cur => .inl ⟨rfl, by simp [splitA]⟩
  | x :: r, cur => by
    by_cases h : x = c
    · subst h
      exact .inr ⟨0, by simp [Lib.indexByte], by simp, by simp [splitA]⟩
    · have hb : (x == c) = false := by simpa using h
      rcases splitA_index c r (cur ++ [x]) with ⟨h1, h2⟩ | ⟨i, h1, h2, h3⟩
      · exact .inl ⟨by simp [Lib.indexByte, hb, h1], by rw [splitA, if_neg h, h2]; simp⟩
      · refine .inr ⟨i + 1, ?_, by simp; omega, ?_⟩
        · simp only [Lib.indexByte, hb, h1]
          have : ((i : Int) == -1) = false := by rw [beq_eq_false_iff_ne]; omega
          rw [this]; simp
        · rw [splitA, if_neg h, h3]; simp
theorem splitK_parts (c : UInt8) : ∀ (K : Nat) (l : List UInt8), ((splitL c l).length ≤ K + 1 → Lib.splitK [c] 0 K l = splitL c l) ∧ (K + 1 ≤ (splitL c l).length → (Lib.splitK [c] 0 K l).length = K + 1)
  | 0, l => by
    refine ⟨fun h => ?_, fun _ => rfl⟩
    rcases splitA_index c l [] with ⟨_, h2⟩ | ⟨i, _, _, h3⟩
    · rw [splitL, h2]; rfl
    · have := split_pos c (l.drop (i + 1)) []
      rw [splitL, h3, List.length_cons] at h
      omega
  | K + 1, l => by
    rcases splitA_index c l [] with ⟨h1, h2⟩ | ⟨i, h1, _, h3⟩
    · have e : Lib.splitK [c] 0 (K + 1) l = [l] := by
        rw [Lib.splitK, Lib.index_one, h1]
        rfl
      rw [splitL, h2, e]
      exact ⟨fun _ => rfl, fun h => by simp at h⟩
    · have e : Lib.splitK [c] 0 (K + 1) l = l.take i :: Lib.splitK [c] 0 K (l.drop (i + 1)) := by
        rw [Lib.splitK, Lib.index_one, h1]
        have : ((i : Int) == -1) = false := by rw [beq_eq_false_iff_ne]; omega
        rw [this]; simp
      have e2 : splitL c l = l.take i :: splitL c (l.drop (i + 1)) := by rw [splitL, h3]; rfl
      obtain ⟨p, q⟩ := splitK_parts c K (l.drop (i + 1))
      rw [e, e2, List.length_cons, List.length_cons]
      exact ⟨fun h => by rw [p (by omega)], fun h => by rw [q (by omega)]⟩
theorem splitL_len (c : UInt8) (l : List UInt8) : (splitL c l).length ≤ l.length + 1 := by
  have : ∀ (r cur : List UInt8), (splitA c cur r).length ≤ r.length + 1 := by
    intro r
    induction r with
    | nil => intro cur; simp [splitA]
    | cons x r ih =>
      intro cur
      rw [splitA]
      split
      · have := ih []; simp; omega
      · have := ih (cur ++ [x]); simp; omega
  exact this l []
/-- strings.SplitN with one part more than wanted. -/
theorem splitN_parts (c : UInt8) (n : Nat) (s : ByteArray) : ((Lib.splitB ⟨#[c]⟩ 0 (min (n + 1) (s.size + 1) - 1) s).length = n ∧ (Lib.splitB ⟨#[c]⟩ 0 (min (n + 1) (s.size + 1) - 1) s).map toL = splitL c (toL s)) ∨ ((Lib.splitB ⟨#[c]⟩ 0 (min (n + 1) (s.size + 1) - 1) s).length ≠ n ∧ (splitL c (toL s)).length ≠ n) := by
  have hd := Lib.splitB_data ⟨#[c]⟩ 0 (min (n + 1) (s.size + 1) - 1) s
  have hl := congrArg List.length hd
  rw [List.length_map] at hl
  have hsz : (toL s).length = s.size := str_len s
  have hle := splitL_len c (toL s)
  obtain ⟨p, q⟩ := splitK_parts c (min (n + 1) (s.size + 1) - 1) (toL s)
  change _ = Lib.splitK [c] 0 (min (n + 1) (s.size + 1) - 1) (toL s) at hd
  change _ = (Lib.splitK [c] 0 (min (n + 1) (s.size + 1) - 1) (toL s)).length at hl
  by_cases h : (splitL c (toL s)).length ≤ n
  · have e := p (by omega)
    rw [e] at hd hl
    by_cases h2 : (splitL c (toL s)).length = n
    · exact .inl ⟨by omega, hd⟩
    · exact .inr ⟨by omega, h2⟩
  · have e := q (by omega)
    exact .inr ⟨by omega, by omega⟩
end Go.Proofs.YtfgbmddmmgipnaaDoor
