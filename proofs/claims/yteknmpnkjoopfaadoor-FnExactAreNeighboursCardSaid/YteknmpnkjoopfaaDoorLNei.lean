/- The walk of the law FnExactAreNeighbours. -/
import Derived.Test.YteknmpnkjoopfaaDoorNei
import Derived.Test.YteknmpnkjoopfaaDoorLoAreNeighbours
namespace Go.Proofs.YteknmpnkjoopfaaDoor
open Go.ChangeShapes Go.WideShapes Go.ChangeAt Go.RowKit

theorem lawAreNeighbours_walk (p q s t : Int) (_ : I64 p) (_ : I64 q) (_ : I64 s) (_ : I64 t) (w : World) (ea : Addr) (hid : Er w ea) :
    Calls Tryd.prog 6 #[(.agg #[.int .i64 p, .int .i64 q]), (.agg #[.int .i64 s, .int .i64 t])] w fun e w' => e = .returned (.bool true) ∧ Below w.heap.size w w' := by
  by_cases h : isF p q = true ∧ isF s t = true
  · obtain ⟨h1, h2⟩ := h
    have e : (decide (detF p q s t = 1) || decide (detF p q s t = -1)) = (((detF p q s t).natAbs : Int) == 1) := by
      rw [Bool.eq_iff_iff]; simp; omega
    exact lawAreNeighbours_of p q s t 0 (((detF p q s t).natAbs : Int) == 1) ea (fun w => specNei_yes p q s t _ _ h1 h2 rfl e w) (fun w _ => implNei_yes p q s t _ _ h1 h2 rfl rfl w) w hid
  · exact lawAreNeighbours_of p q s t 1 false ea (fun w => specNei_no p q s t h w) (fun w hE => implNei_no p q s t h ea w hE) w hid
end Go.Proofs.YteknmpnkjoopfaaDoor
