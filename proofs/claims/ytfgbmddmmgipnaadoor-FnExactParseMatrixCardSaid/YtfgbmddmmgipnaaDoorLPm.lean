/- The walk of the law FnExactParseMatrix. -/
import Derived.Test.YtfgbmddmmgipnaaDoorLoParseMatrix
namespace Go.Proofs.YtfgbmddmmgipnaaDoor
open Go.ChangeShapes Go.WideShapes Go.ChangeAt Go.RowKit

theorem readM_yes {ps : List (List UInt8)} {m : Mat} {ok : Bool} {a b c d : Int} (hM : isM a b c d = true) (hp : ps = [a, b, c, d].map Lib.itoa) (h : ReadM ps m ok) : m = ⟨a, b, c, d⟩ ∧ ok = true := by
  rcases h with ⟨h1, h2, h3⟩ | ⟨_, _, h3⟩
  · have := itoa_map_inj (ten4 h3) (ten4 hM) (h2.symm.trans hp)
    obtain ⟨x, y, z, u⟩ := m
    simp only [List.cons.injEq, and_true] at this
    obtain ⟨rfl, rfl, rfl, rfl⟩ := this
    exact ⟨rfl, h1⟩
  · exact absurd hp (h3 a b c d hM)
theorem readM_no {ps : List (List UInt8)} {m : Mat} {ok : Bool} (hn : ∀ a b c d, isM a b c d = true → ps ≠ [a, b, c, d].map Lib.itoa) (h : ReadM ps m ok) : m = Mat.zero ∧ ok = false := by
  rcases h with ⟨_, h2, h3⟩ | ⟨h1, h2, _⟩
  · exact absurd h2 (hn _ _ _ _ h3)
  · exact ⟨h2, h1⟩
theorem lawParseMatrix_walk (s : ByteArray) (hs : s.size ≤ maxLen) (w : World) (hL : Lb w) :
    Calls Tryd.prog 3 #[.string s] w fun e w' => e = .returned (.bool true) ∧ Below w.heap.size w w' := by
  by_cases hn : s.size ≤ 1048576
  · by_cases hE : ∃ a b c d, isM a b c d = true ∧ splitL 44 (toL s) = [a, b, c, d].map Lib.itoa
    · obtain ⟨a, b, c, d, hM, hp⟩ := hE
      refine lawParseMatrix_of s a b c d 0 hn (fun w => ?_) (fun w hL => ?_) w hL
      · refine (specPm_any s hn w).mono ?_
        rintro e w' ⟨m, ok, rfl, HX, hb⟩
        obtain ⟨rfl, rfl⟩ := readM_yes hM hp HX.out
        exact ⟨rfl, hb⟩
      · refine (implPm_any s hn w hL).mono ?_
        rintro e w' ⟨m, ok, rfl, HX, hb⟩
        obtain ⟨rfl, rfl⟩ := readM_yes hM hp HX.out
        exact ⟨rfl, hb⟩
    · have hno : ∀ a b c d, isM a b c d = true → splitL 44 (toL s) ≠ [a, b, c, d].map Lib.itoa := fun a b c d hM hp => hE ⟨a, b, c, d, hM, hp⟩
      refine lawParseMatrix_of s 0 0 0 0 6 hn (fun w => ?_) (fun w hL => ?_) w hL
      · refine (specPm_any s hn w).mono ?_
        rintro e w' ⟨m, ok, rfl, HX, hb⟩
        obtain ⟨rfl, rfl⟩ := readM_no hno HX.out
        exact ⟨rfl, hb⟩
      · refine (implPm_any s hn w hL).mono ?_
        rintro e w' ⟨m, ok, rfl, HX, hb⟩
        obtain ⟨rfl, rfl⟩ := readM_no hno HX.out
        exact ⟨rfl, hb⟩
  · exact lawParseMatrix_long s hn (by unfold maxLen at hs; omega) w
end Go.Proofs.YtfgbmddmmgipnaaDoor
