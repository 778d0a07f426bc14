/- The walk of the law FnExactNamedMatrix. -/
import Derived.Test.YthappdcoomgbpaaDoorNam
import Derived.Test.YthappdcoomgbpaaDoorLoNamedMatrix
namespace Go.Proofs.YthappdcoomgbpaaDoor
open Go.ChangeShapes Go.WideShapes Go.ChangeAt Go.RowKit

theorem lawNamedMatrix_walk (s : ByteArray) (hs : s.size ≤ 9223372036854775807) (w : World) (hmx : MxS w) (hid : Idn w) :
    Calls Tryd.prog 3 #[.string s] w fun e w' => e = .returned (.bool true) ∧ Below w.heap.size w w' := by
  by_cases h1 : s.size ≤ 1048576
  · have hz : s.size ≤ maxLen := by unfold maxLen; omega
    have e : s.data.toList = s.toList := (ByteArray.toList_eq s).symm
    rcases hf : nmF s.toList with _ | m
    · have hf2 : namedF (.string s.data.toList) = none := by rw [e, namedF_str]; exact hf
      exact lawNamedMatrix_of s 0 0 0 0 4 h1 (fun w => specNam_no s hf w) (fun w h1 h2 => implNam_no s hz hf2 w h1 h2) w hid hmx
    · have hf2 : namedF (.string s.data.toList) = some m := by rw [e, namedF_str]; exact hf
      exact lawNamedMatrix_of s m.a m.b m.c m.d 0 h1 (fun w => specNam_yes s m hf w) (fun w h1 h2 => implNam_yes s m hz hf2 w h1 h2) w hid hmx
  · exact lawNamedMatrix_long s h1 hs w
end Go.Proofs.YthappdcoomgbpaaDoor
