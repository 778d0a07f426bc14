/- The walk of the law FnExactMatrixOfLetters. -/
import Derived.Test.YtkeadknbdihkmaaDoorLoMatrixOfLetters
namespace Go.Proofs.YtkeadknbdihkmaaDoor
open Go.ChangeShapes Go.WideShapes Go.ChangeAt Go.RowKit

theorem lawMatrixOfLetters_walk (s : ByteArray) (hs : s.size ≤ 9223372036854775807) (w : World) (hid : Idn w) :
    Calls Tryd.prog 5 #[.string s] w fun e w' => e = .returned (.bool true) ∧ Below w.heap.size w w' := by
  by_cases h1 : s.size ≤ 1048576
  · by_cases h2 : s.size ≤ 400
    · rcases h3 : treeOk s.data.toList with _ | _
      · exact lawMatrixOfLetters_of s 0 0 0 0 2 h1 (fun w => specMol_no s h2 h3 w) (fun w _ => implMol_no s (.inr h3) w) w hid
      · obtain ⟨r, kd, hPA⟩ := PA.any (wordB s)
        exact lawMatrixOfLetters_of s _ _ _ _ kd h1 (fun w => specMol_yes s h2 h3 r kd hPA w) (fun w hid => implMol_yes s h2 h3 r kd hPA w hid) w hid
    · exact lawMatrixOfLetters_of s 0 0 0 0 2 h1 (fun w => specMol_long s h2 w) (fun w _ => implMol_no s (.inl h2) w) w hid
  · exact lawMatrixOfLetters_long s h1 hs w
end Go.Proofs.YtkeadknbdihkmaaDoor
