/- Contracts of CompareFractions. -/
import Derived.Test.YtfgbmddmmgipnaaDoorIsF
namespace Go.Proofs.YtfgbmddmmgipnaaDoor
open Go.ChangeShapes Go.WideShapes Go.ChangeAt Go.RowKit

def sgn (x : Int) : Int := if x < 0 then -1 else if 0 < x then 1 else 0
theorem isF_entC {p q : Int} (h : isF p q = true) : Ent p ∧ Ent q ∧ 0 ≤ q ∧ (0 < q ∨ p = 1) := by
  obtain ⟨h1, h2, h3, _, h5⟩ := of_decide_eq_true h
  exact ⟨h1, by unfold Ent; omega, h2, h5⟩
theorem implIsF_isC (r : Bool) (p q : Int) (h : isF p q = r) (w : World) :
    Calls Tryd.prog 19 #[(.agg #[.int .i64 p, .int .i64 q])] w fun e w' => e = .returned (.bool r) ∧ Below w.heap.size w w' := h ▸ implIsF_any p q w
theorem l01Fraction_is (r : Bool) (p q : Int) (h : isF p q = r) (w : World) :
    Calls Tryd.prog 30 #[(.agg #[.int .i64 p, .int .i64 q])] w fun e w' => e = .returned (.bool r) ∧ Below w.heap.size w w' := h ▸ l01Fraction_any p q w

end Go.Proofs.YtfgbmddmmgipnaaDoor
