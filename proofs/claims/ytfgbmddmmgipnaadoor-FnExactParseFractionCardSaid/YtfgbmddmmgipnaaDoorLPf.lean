/- The walk of the law FnExactParseFraction. -/
import Derived.Test.YtfgbmddmmgipnaaDoorLoParseFraction
namespace Go.Proofs.YtfgbmddmmgipnaaDoor
open Go.ChangeShapes Go.WideShapes Go.ChangeAt Go.RowKit

theorem readF_yes {ps : List (List UInt8)} {p q : Int} {ok : Bool} {a b : Int} (hM : isF a b = true) (hp : ps = [a, b].map Lib.itoa) (h : ReadF ps p q ok) : p = a ∧ q = b ∧ ok = true := by
  rcases h with ⟨h1, h2, h3⟩ | ⟨_, _, _, h3⟩
  · have := itoa_map_inj (ten2 h3) (ten2 hM) (h2.symm.trans hp)
    simp only [List.cons.injEq, and_true] at this
    exact ⟨this.1, this.2, h1⟩
  · exact absurd hp (h3 a b hM)
theorem readF_no {ps : List (List UInt8)} {p q : Int} {ok : Bool} (hn : ∀ a b, isF a b = true → ps ≠ [a, b].map Lib.itoa) (h : ReadF ps p q ok) : p = 0 ∧ q = 0 ∧ ok = false := by
  rcases h with ⟨_, h2, h3⟩ | ⟨h1, h2, h3, _⟩
  · exact absurd h2 (hn _ _ h3)
  · exact ⟨h2, h3, h1⟩
theorem lawParseFraction_walk (s : ByteArray) (hs : s.size ≤ maxLen) (w : World) (hL : Lb w) :
    Calls Tryd.prog 4 #[.string s] w fun e w' => e = .returned (.bool true) ∧ Below w.heap.size w w' := by
  by_cases hn : s.size ≤ 1048576
  · by_cases hE : ∃ a b, isF a b = true ∧ splitL 47 (toL s) = [a, b].map Lib.itoa
    · obtain ⟨a, b, hM, hp⟩ := hE
      refine lawParseFraction_of s a b 0 hn (fun w => ?_) (fun w hL => ?_) w hL
      · refine (specPf_any s hn w).mono ?_
        rintro e w' ⟨p, q, ok, rfl, HX, hb⟩
        obtain ⟨rfl, rfl, rfl⟩ := readF_yes hM hp HX.out
        exact ⟨rfl, hb⟩
      · refine (implPf_any s hn w hL).mono ?_
        rintro e w' ⟨p, q, ok, rfl, HX, hb⟩
        obtain ⟨rfl, rfl, rfl⟩ := readF_yes hM hp HX.out
        exact ⟨rfl, hb⟩
    · have hno : ∀ a b, isF a b = true → splitL 47 (toL s) ≠ [a, b].map Lib.itoa := fun a b hM hp => hE ⟨a, b, hM, hp⟩
      refine lawParseFraction_of s 0 0 6 hn (fun w => ?_) (fun w hL => ?_) w hL
      · refine (specPf_any s hn w).mono ?_
        rintro e w' ⟨p, q, ok, rfl, HX, hb⟩
        obtain ⟨rfl, rfl, rfl⟩ := readF_no hno HX.out
        exact ⟨rfl, hb⟩
      · refine (implPf_any s hn w hL).mono ?_
        rintro e w' ⟨p, q, ok, rfl, HX, hb⟩
        obtain ⟨rfl, rfl, rfl⟩ := readF_no hno HX.out
        exact ⟨rfl, hb⟩
  · exact lawParseFraction_long s hn (by unfold maxLen at hs; omega) w
end Go.Proofs.YtfgbmddmmgipnaaDoor
