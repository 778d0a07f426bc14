/- The walk of the law FnExactCountKept. -/
import Derived.Test.YtmijmlngbahaaaaDoorLoCountKept
namespace Go.Proofs.YtmijmlngbahaaaaDoor
open Go.ChangeShapes Go.WideShapes Go.ChangeAt Go.RowKit
theorem Kp_both (n : Int) : ∃ x y k : Int,
    (∀ w : World, Calls Tryd.prog 13 #[(.int .i64 n)] w fun e w' => e = .returned (.tuple #[(.int .i64 x), (.int .i64 y), (.int .i64 k)]) ∧ Below w.heap.size w w') ∧
    (∀ w : World, Idn w → MxS w → Calls Tryd.prog 14 #[(.int .i64 n)] w fun e w' => e = .returned (.tuple #[(.int .i64 x), (.int .i64 y), (.int .i64 k)]) ∧ Below w.heap.size w w') := by
  rcases hn : inR n 1 60 with _ | _
  · exact ⟨_, _, _, specKp_no n hn, fun w _ _ => implKp_no n hn w⟩
  · exact ⟨_, _, _, specKp_yes n hn _ rfl, implKp_yes n hn _ rfl⟩
theorem lawCountKept_walk (n : Int) (_ : I64 n) (w : World) (hmx : MxS w) (hid : Idn w) :
    Calls Tryd.prog 5 #[(.int .i64 n)] w fun e w' => e = .returned (.bool true) ∧ Below w.heap.size w w' := by
  obtain ⟨x, y, k, hs, hi⟩ := Kp_both n
  exact lawCountKept_of n x y k hs hi w hid hmx
end Go.Proofs.YtmijmlngbahaaaaDoor
