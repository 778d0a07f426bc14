/- The runs of a positive matrix: mathematics alone. -/
import Derived.Test.YtfgbmddmmgipnaaDoorA
namespace Go.Proofs.YtfgbmddmmgipnaaDoor
open Go.ChangeShapes Go.WideShapes Go.ChangeAt Go.RowKit

/-- none less than 0 -/
def Pos (a b c d : Int) : Prop := 0 ≤ a ∧ 0 ≤ b ∧ 0 ≤ c ∧ 0 ≤ d ∧ a ≤ 1000000000 ∧ b ≤ 1000000000 ∧ c ≤ 1000000000 ∧ d ≤ 1000000000 ∧ a * d - b * c = 1
/-- a bound of how many runs there are -/
def msr (a b c d : Int) : Nat := (a + b + c + d).toNat + (if b < d ∧ 0 < c then 1 else 0)
/-- The runs, by a bound of how many there are. -/
def runsF : Nat → Int → Int → Int → Int → List Int
  | 0, _, _, _, _ => []
  | f + 1, a, b, c, d => if a = 1 ∧ b = 0 ∧ c = 0 ∧ d = 1 then [] else b / d :: runsF f d c (b - b / d * d) (a - b / d * c)

theorem pos_d {a b c d : Int} (h : Pos a b c d) : 1 ≤ d ∧ 1 ≤ a := by
  obtain ⟨ha, hb, hc, hd, _, _, _, _, e⟩ := h
  have h1 : 0 ≤ b * c := Int.mul_nonneg hb hc
  constructor
  · rcases Int.lt_or_le 0 d with h | h
    · omega
    · obtain rfl : d = 0 := by omega
      simp at e; omega
  · rcases Int.lt_or_le 0 a with h | h
    · omega
    · obtain rfl : a = 0 := by omega
      simp at e; omega
theorem pos_facts {a b c d : Int} (h : Pos a b c d) : 0 ≤ b / d ∧ b / d ≤ b ∧ 0 ≤ b - b / d * d ∧ b - b / d * d < d ∧ b - b / d * d ≤ b ∧ b / d * c ≤ a ∧ 0 ≤ b / d * c ∧ (c = 0 ∨ b / d ≤ a / c) := by
  obtain ⟨hd1, ha1⟩ := pos_d h
  obtain ⟨ha, hb, hc, hd, _, _, _, _, e⟩ := h
  have q0 : 0 ≤ b / d := Int.ediv_nonneg hb hd
  have q1 : b / d ≤ b := Int.ediv_le_self d hb
  have q2 : b - b / d * d = b % d := by have := Int.mul_ediv_add_emod b d; rw [Int.mul_comm] at this; omega
  have q3 : 0 ≤ b % d := Int.emod_nonneg b (by omega)
  have q4 : b % d < d := Int.emod_lt_of_pos b (by omega)
  have q5 : 0 ≤ b / d * d := Int.mul_nonneg q0 hd
  have q6 : 0 ≤ b / d * c := Int.mul_nonneg q0 hc
  have q7 : b / d * c ≤ a := by
    rcases Int.lt_or_le a (b / d * c) with h | h
    · exfalso
      have h1 : (a + 1) * d ≤ b / d * c * d := Int.mul_le_mul_of_nonneg_right (by omega) hd
      have h2 : b / d * d * c ≤ b * c := Int.mul_le_mul_of_nonneg_right (by omega) hc
      have h3 : b / d * c * d = b / d * d * c := by rw [Int.mul_assoc, Int.mul_comm c d, ← Int.mul_assoc]
      have h4 : (a + 1) * d = a * d + d := by rw [Int.add_mul, Int.one_mul]
      omega
    · exact h
  refine ⟨q0, q1, by omega, by omega, by omega, q7, q6, ?_⟩
  by_cases hc0 : c = 0
  · exact .inl hc0
  · exact .inr ((Int.le_ediv_iff_mul_le (by omega)).2 q7)
theorem pos_next {a b c d : Int} (h : Pos a b c d) : Pos d c (b - b / d * d) (a - b / d * c) := by
  obtain ⟨q0, q1, q2, q3, q4, q5, q6, _⟩ := pos_facts h
  obtain ⟨ha, hb, hc, hd, _, _, _, _, e⟩ := h
  refine ⟨hd, hc, q2, by omega, by omega, by omega, by omega, by omega, ?_⟩
  have h1 : d * (a - b / d * c) - c * (b - b / d * d) = a * d - b * c := by grind
  rw [h1, e]
theorem msr_next {a b c d : Int} (h : Pos a b c d) (hn : ¬ (a = 1 ∧ b = 0 ∧ c = 0 ∧ d = 1)) : msr d c (b - b / d * d) (a - b / d * c) < msr a b c d := by
  obtain ⟨q0, q1, q2, q3, q4, q5, q6, _⟩ := pos_facts h
  obtain ⟨hd1, ha1⟩ := pos_d h
  obtain ⟨ha, hb, hc, hd, _, _, _, _, e⟩ := h
  by_cases hq : b / d = 0
  · rw [hq] at q2 q3 q4 q5 q6 ⊢
    simp only [Int.zero_mul, Int.sub_zero] at *
    have hbd : b < d := q3
    have hca : ¬ c < a := by
      intro hca
      have h1 : (c + 1) * (b + 1) ≤ a * d := Int.mul_le_mul (by omega) (by omega) (by omega) (by omega)
      have h2 : (c + 1) * (b + 1) = b * c + c + b + 1 := by grind
      have hb0 : b = 0 := by omega
      have hc0 : c = 0 := by omega
      subst hb0 hc0
      have h3 : a * d = 1 := by omega
      have h4 : a.natAbs * d.natAbs = 1 := by rw [← Int.natAbs_mul, h3]; rfl
      have h5 := Nat.eq_one_of_mul_eq_one_right h4
      have h6 := Nat.eq_one_of_mul_eq_one_left h4
      exact hn ⟨by omega, rfl, rfl, by omega⟩
    have hc1 : 0 < c := by
      rcases Int.lt_or_le 0 c with h | h
      · exact h
      · exfalso
        obtain rfl : c = 0 := by omega
        have h3 : a * d = 1 := by omega
        have h4 : a.natAbs * d.natAbs = 1 := by rw [← Int.natAbs_mul, h3]; rfl
        have h5 := Nat.eq_one_of_mul_eq_one_right h4
        have h6 := Nat.eq_one_of_mul_eq_one_left h4
        exact hn ⟨by omega, by omega, rfl, by omega⟩
    unfold msr
    rw [if_neg (by omega), if_pos ⟨hbd, hc1⟩]
    omega
  · have h1 : d ≤ b / d * d := by
      have := Int.mul_le_mul_of_nonneg_right (show 1 ≤ b / d by omega) hd
      omega
    have h2 : c ≤ b / d * c := by
      have := Int.mul_le_mul_of_nonneg_right (show 1 ≤ b / d by omega) hc
      omega
    by_cases hc1 : 0 < c
    · unfold msr
      split <;> split <;> omega
    · obtain rfl : c = 0 := by omega
      have h3 : a * d = 1 := by omega
      have h4 : a.natAbs * d.natAbs = 1 := by rw [← Int.natAbs_mul, h3]; rfl
      have h6 := Nat.eq_one_of_mul_eq_one_left h4
      obtain rfl : d = 1 := by omega
      unfold msr
      rw [if_neg (by omega), if_neg (by omega)]
      omega
theorem pos_msr {a b c d : Int} (h : Pos a b c d) : msr a b c d ≤ 4000000001 ∧ 1 ≤ msr a b c d := by
  obtain ⟨hd1, ha1⟩ := pos_d h
  obtain ⟨ha, hb, hc, hd, _, _, _, _, e⟩ := h
  unfold msr
  split <;> omega
theorem runsF_unit {f : Nat} : runsF f 1 0 0 1 = [] := by
  cases f
  · rfl
  · rw [runsF, if_pos ⟨rfl, rfl, rfl, rfl⟩]
theorem runsF_go {f : Nat} {a b c d : Int} (hn : ¬ (a = 1 ∧ b = 0 ∧ c = 0 ∧ d = 1)) : runsF (f + 1) a b c d = b / d :: runsF f d c (b - b / d * d) (a - b / d * c) := by
  rw [runsF, if_neg hn]
/-- Numbers on the way stay small, and each is 0 or more. -/
theorem runsF_all (f : Nat) : ∀ {a b c d : Int}, Pos a b c d → ∀ x ∈ runsF f a b c d, 0 ≤ x ∧ x ≤ 1000000000 := by
  induction f with
  | zero => intro a b c d _ x hx; simp [runsF] at hx
  | succ f ih =>
    intro a b c d h x hx
    rw [runsF] at hx
    split at hx
    · simp at hx
    · obtain ⟨q0, q1, _⟩ := pos_facts h
      have := h.2.2.2.2.2.1
      rcases List.mem_cons.1 hx with rfl | hx
      · exact ⟨q0, by omega⟩
      · exact ih (pos_next h) x hx
theorem runsF_len (f : Nat) : ∀ a b c d : Int, (runsF f a b c d).length ≤ f := by
  induction f with
  | zero => intro a b c d; simp [runsF]
  | succ f ih =>
    intro a b c d
    rw [runsF]
    split
    · simp
    · have := ih d c (b - b / d * d) (a - b / d * c)
      simp only [List.length_cons]; omega
/-- A round, put together. -/
theorem runs_round {f : Nat} {a b c d q : Int} (hp : Pos a b c d) (hm : msr a b c d ≤ f) (he : decide (a = 1 ∧ b = 0 ∧ c = 0 ∧ d = 1) = false) (hq : b / d = q) :
    ∃ (k : Nat) (x y : Int), f = k + 1 ∧ a - q * c = x ∧ b - q * d = y ∧ Ent (-q) ∧ Ent a ∧ Ent b ∧ Ent c ∧ Ent d ∧ Hid (runsF f a b c d = q :: runsF k d c y x) ∧ Hid (Pos d c y x) ∧ Hid (msr d c y x ≤ k) := by
  have hn := of_decide_eq_false he
  have h1 := pos_msr hp
  have h2 := msr_next hp hn
  have h3 := pos_next hp
  obtain ⟨q0, q1, _⟩ := pos_facts hp
  obtain ⟨k, rfl⟩ : ∃ k, f = k + 1 := ⟨f - 1, by omega⟩
  have h4 := runsF_go (f := k) hn
  rw [hq] at h2 h3 h4 q0 q1
  obtain ⟨ha, hb, hc, hd, ha', hb', hc', hd', _⟩ := hp
  exact ⟨k, _, _, rfl, rfl, rfl, by unfold Ent; omega, by unfold Ent; omega, by unfold Ent; omega, by unfold Ent; omega, by unfold Ent; omega, Lib.hid h4, Lib.hid h3, Lib.hid (by omega)⟩
end Go.Proofs.YtfgbmddmmgipnaaDoor
