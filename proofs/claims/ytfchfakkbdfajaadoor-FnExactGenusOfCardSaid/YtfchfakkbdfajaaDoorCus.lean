/- What a kernel check tells of each level. -/
import Derived.Test.YtfchfakkbdfajaaDoorCuB
import Derived.Test.YtfchfakkbdfajaaDoorCc
import Derived.Test.YtfchfakkbdfajaaDoorIdxM
namespace Go.Proofs.YtfchfakkbdfajaaDoor
open Go.ChangeShapes Go.WideShapes Go.ChangeAt Go.RowKit

def chkG (n : Nat) : Bool :=
  decide (md 999 2 ((n : Int) * n * n) n / ((n : Int) * ((cop (n : Int) n).length : Int)) = ((ln (n : Int)).length : Int)) && decide (ccs (n : Int) n = ((cus (n : Int) (ln (n : Int)).length).2 : Int))
/-- all levels from lo on, k of them -/
def chkR (lo : Nat) : Nat → Bool
  | 0 => true
  | k + 1 => chkG (lo + k) && chkR lo k
theorem chkR_at {lo : Nat} : ∀ {k n : Nat}, chkR lo k = true → lo ≤ n → n < lo + k → chkG n = true
  | 0, n, _, _, _ => by omega
  | k + 1, n, h, h1, h2 => by
    rw [chkR, Bool.and_eq_true] at h
    rcases (show n = lo + k ∨ n < lo + k by omega) with rfl | h3
    · exact h.1
    · exact chkR_at h.2 h1 h3
theorem chkG_is {n : Nat} (h : chkG n = true) : md 999 2 ((n : Int) * n * n) n / ((n : Int) * ((cop (n : Int) n).length : Int)) = ((ln (n : Int)).length : Int) ∧ ccs (n : Int) n = ((cus (n : Int) (ln (n : Int)).length).2 : Int) := by
  rw [chkG, Bool.and_eq_true] at h
  exact ⟨of_decide_eq_true h.1, of_decide_eq_true h.2⟩
end Go.Proofs.YtfchfakkbdfajaaDoor
