/- Positive words: mathematics. -/
import Derived.Test.YtfgbmddmmgipnaaDoorRunM
import Derived.Test.YtfgbmddmmgipnaaDoorSpl
namespace Go.Proofs.YtfgbmddmmgipnaaDoor
open Go.ChangeShapes Go.WideShapes Go.ChangeAt Go.RowKit

theorem runsF_sum (f : Nat) : ∀ {a b c d : Int}, Pos a b c d → sumI (runsF f a b c d) ≤ a + b + c + d := by
  induction f with
  | zero =>
    intro a b c d h
    obtain ⟨ha, hb, hc, hd, _⟩ := h
    simp only [runsF, sumI]; omega
  | succ f ih =>
    intro a b c d h
    have hp := h
    obtain ⟨ha, hb, hc, hd, _⟩ := h
    rw [runsF]
    split
    · simp only [sumI]; omega
    · obtain ⟨hd1, _⟩ := pos_d hp
      have q0 : 0 ≤ b / d := Int.ediv_nonneg hb hd
      have := ih (pos_next hp)
      simp only [sumI]
      generalize b / d = q at *
      have h1 : q * 1 ≤ q * d := Int.mul_le_mul_of_nonneg_left hd1 q0
      have h2 : 0 ≤ q * c := Int.mul_nonneg q0 hc
      omega
end Go.Proofs.YtfgbmddmmgipnaaDoor
