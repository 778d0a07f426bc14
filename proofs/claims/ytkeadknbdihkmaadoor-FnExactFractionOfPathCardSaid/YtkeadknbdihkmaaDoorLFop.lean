/- The walk of the law FnExactFractionOfPath. -/
import Derived.Test.YtkeadknbdihkmaaDoorFopI
import Derived.Test.YtkeadknbdihkmaaDoorLoFractionOfPath
namespace Go.Proofs.YtkeadknbdihkmaaDoor
open Go.ChangeShapes Go.WideShapes Go.ChangeAt Go.RowKit

theorem lawFractionOfPath_walk (s : ByteArray) (hs : s.size ≤ 9223372036854775807) (w : World) (hid : Idn w) :
    Calls Tryd.prog 10 #[.string s] w fun e w' => e = .returned (.bool true) ∧ Below w.heap.size w w' := by
  by_cases h1 : s.size ≤ 1048576
  · by_cases h3 : s.size ≤ 40
    · rcases ho : pathOk s.data.toList with _ | _
      · have hsp : spell pathF s.data.toList = none := by rw [spell_path, ho]; rfl
        exact lawFractionOfPath_of s 0 0 2 h1 (fun w => specFop_no s h3 ho w) (fun w _ => implFop_no s h3 hsp w) w hid
      · have hsp : spell pathF s.data.toList = some (s.data.toList.map letM) := by rw [spell_path, ho]; rfl
        have hl : s.data.toList.length ≤ 40 := by rw [str_len]; exact h3
        obtain ⟨_, _, m1, m2, _⟩ := (walkM_pl s.data.toList).low hl
        exact lawFractionOfPath_of s _ _ 0 h1 (fun w => specFop_yes s h3 ho _ rfl w) (fun w hid => implFop_yes s h3 _ hsp _ m1 m2 (PA_walk _ hl) (by rw [List.length_map]; exact hl) w hid) w hid
    · exact lawFractionOfPath_of s 0 0 2 h1 (fun w => specFop_long s h3 hs w) (fun w _ => implFop_long s h3 w) w hid
  · exact lawFractionOfPath_long s h1 hs w
end Go.Proofs.YtkeadknbdihkmaaDoor
