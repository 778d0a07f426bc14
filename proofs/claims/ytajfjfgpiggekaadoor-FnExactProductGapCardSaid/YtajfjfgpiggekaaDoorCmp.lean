/- Contracts of CompareFractions. -/
import Derived.Test.YtajfjfgpiggekaaDoorIsF
namespace Go.Proofs.YtajfjfgpiggekaaDoor
open Go.ChangeShapes Go.WideShapes Go.ChangeAt Go.RowKit

def sgn (x : Int) : Int := if x < 0 then -1 else if 0 < x then 1 else 0
theorem signOf_any (x : Int) (w : World) :
    Calls Tryd.prog 40 #[(.int .i64 x)] w fun e w' => e = .returned (.int .i64 (sgn x)) ∧ w = w' := by
  unfold sgn
  rcases (show x < 0 ∨ 0 < x ∨ x = 0 by omega) with h | h | h
  · rw [if_pos h]
    go_enter Tryd.func40, Tryd.ntmps40
    go_wp2
    go_ret
    exact ⟨rfl, rfl⟩
  · have h' : ¬ x < 0 := by omega
    rw [if_neg h', if_pos h]
    go_enter Tryd.func40, Tryd.ntmps40
    go_wp2
    go_ret
    exact ⟨rfl, rfl⟩
  · subst h
    go_enter Tryd.func40, Tryd.ntmps40
    go_wp2
    go_ret
    exact ⟨rfl, rfl⟩
theorem isF_entC {p q : Int} (h : isF p q = true) : Ent p ∧ Ent q ∧ 0 ≤ q ∧ (0 < q ∨ p = 1) := by
  obtain ⟨h1, h2, h3, _, h5⟩ := of_decide_eq_true h
  exact ⟨h1, by unfold Ent; omega, h2, h5⟩
theorem implIsF_isC (r : Bool) (p q : Int) (h : isF p q = r) (w : World) :
    Calls Tryd.prog 24 #[(.agg #[.int .i64 p, .int .i64 q])] w fun e w' => e = .returned (.bool r) ∧ Below w.heap.size w w' := h ▸ implIsF_any p q w
theorem l01Fraction_is (r : Bool) (p q : Int) (h : isF p q = r) (w : World) :
    Calls Tryd.prog 18 #[(.agg #[.int .i64 p, .int .i64 q])] w fun e w' => e = .returned (.bool r) ∧ Below w.heap.size w w' := h ▸ l01Fraction_any p q w

end Go.Proofs.YtajfjfgpiggekaaDoor
