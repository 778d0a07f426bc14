/- The walk of the law FnExactMatrixOfWord. -/
import Derived.Test.YtkeadknbdihkmaaDoorMowI
import Derived.Test.YtkeadknbdihkmaaDoorLoMatrixOfWord
namespace Go.Proofs.YtkeadknbdihkmaaDoor
open Go.ChangeShapes Go.WideShapes Go.ChangeAt Go.RowKit

theorem lawMatrixOfWord_walk (s : ByteArray) (hs : s.size ≤ 9223372036854775807) (w : World) (hmx : MxS w) (hid : Idn w) :
    Calls Tryd.prog 8 #[.string s] w fun e w' => e = .returned (.bool true) ∧ Below w.heap.size w w' := by
  by_cases h1 : s.size ≤ 1048576
  · by_cases h2 : s.size ≤ 200
    · rcases ho : spell (ltA esWord) s.data.toList with _ | ms
      · exact lawMatrixOfWord_of s 0 0 0 0 2 h1 (fun w => specMow_no s h2 ho w) (fun w hi hm => implMow_no s hs (.inr ho) w hi hm) w hid hmx
      · obtain ⟨r, kd, hPA⟩ := PA.any ms
        exact lawMatrixOfWord_of s r.a r.b r.c r.d kd h1 (fun w => specMow_yes s h2 ms ho r kd hPA w) (fun w hi hm => implMow_yes s h2 ms ho r kd hPA w hi hm) w hid hmx
    · exact lawMatrixOfWord_of s 0 0 0 0 2 h1 (fun w => specMow_long s h2 hs w) (fun w hi hm => implMow_no s hs (.inl h2) w hi hm) w hid hmx
  · exact lawMatrixOfWord_long s h1 hs w
end Go.Proofs.YtkeadknbdihkmaaDoor
