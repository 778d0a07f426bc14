/- The walk of the law FnExactMatrixOfFree. -/
import Derived.Test.YtkeadknbdihkmaaDoorFrI
import Derived.Test.YtkeadknbdihkmaaDoorLoMatrixOfFree
namespace Go.Proofs.YtkeadknbdihkmaaDoor
open Go.ChangeShapes Go.WideShapes Go.ChangeAt Go.RowKit

theorem lawMatrixOfFree_walk (s : ByteArray) (hs : s.size ≤ 9223372036854775807) (w : World) (hmx : MxS w) (hid : Idn w) :
    Calls Tryd.prog 9 #[.string s] w fun e w' => e = .returned (.bool true) ∧ Below w.heap.size w w' := by
  by_cases h1 : s.size ≤ 1048576
  · by_cases h2 : s.size ≤ 200
    · rcases ho : spell (ltA esFree) s.data.toList with _ | ms
      · exact lawMatrixOfFree_of s 0 0 0 0 2 h1 (fun w => specFr_no s h2 (.inr ho) w) (fun w hi hm => implFr_no s hs (.inr ho) w hi hm) w hid hmx
      · rcases ha : altOk s with _ | _
        · exact lawMatrixOfFree_of s 0 0 0 0 2 h1 (fun w => specFr_no s h2 (.inl ha) w) (fun w hi hm => implFr_alt s h2 ms ho ha w hi hm) w hid hmx
        · obtain ⟨r, kd, hPA⟩ := PA.any ms
          exact lawMatrixOfFree_of s r.a r.b r.c r.d kd h1 (fun w => specFr_yes s h2 ha ms ho r kd hPA w) (fun w hi hm => implFr_some s h2 ms ho ha r kd hPA w hi hm) w hid hmx
    · exact lawMatrixOfFree_of s 0 0 0 0 2 h1 (fun w => specFr_long s h2 hs w) (fun w hi hm => implFr_no s hs (.inl h2) w hi hm) w hid hmx
  · exact lawMatrixOfFree_long s h1 hs w
end Go.Proofs.YtkeadknbdihkmaaDoor
