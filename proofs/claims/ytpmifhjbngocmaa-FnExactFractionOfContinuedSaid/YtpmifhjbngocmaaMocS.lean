/- spec.MatrixOfChain: contract. -/
import Derived.Test.YtpmifhjbngocmaaMocM
namespace Go.Proofs.Ytpmifhjbngocmaa
open Go.ChangeShapes Go.WideShapes Go.ChangeAt Go.RowKit

theorem inR_sym (x : Int) : inR x (-1000000000) 1000000000 = inW x 1000000000 := by
  unfold inR inW
  rfl
/-- where the product stands ahead of the k-th round -/
def hdC (k : Nat) : Nat := if k = 0 then 1 else 2 * k
theorem Sofar.atT {s : Int} {xs : List Int} {k n : Nat} {p q : Mat} {x : Int} {r : Bool} (h : Sofar (chPre s xs n) (2 * k + 1) p true) (hk : k < n) (hx : xs.getD k 0 = x) (ht : TM p ⟨1, x, 0, 1⟩ q r) : Sofar (chPre s xs n) (hdC (k + 1)) q r := by
  have e : hdC (k + 1) = 2 * k + 1 + 1 := by unfold hdC; rw [if_neg (by omega)]; omega
  rw [e]
  refine Sofar.step h (by rw [chPre_len]; omega) ?_ ht
  rw [chPre_get]
  unfold chF
  rw [if_neg (by omega), if_neg (by omega), show (2 * k + 1) / 2 = k by omega, hx]
theorem Sofar.atS {s : Int} {xs : List Int} {k n : Nat} {p q : Mat} {r : Bool} (h : Sofar (chPre s xs n) (hdC k) p true) (hk : k < n) (h0 : 0 < k) (ht : TM p ⟨0, -1, 1, 0⟩ q r) : Sofar (chPre s xs n) (2 * k + 1) q r := by
  have e : hdC k = 2 * k := by unfold hdC; rw [if_neg (by omega)]
  rw [e] at h
  refine Sofar.step h (by rw [chPre_len]; omega) ?_ ht
  rw [chPre_get]
  unfold chF
  rw [if_neg (by omega), if_pos (by omega)]
theorem Sofar.fell {ms : List Mat} {k j : Nat} {p q : Mat} (h : Sofar ms k p false) : Sofar ms j q false := by
  rcases h with ⟨h, _⟩ | ⟨_, h⟩
  · cases h
  · exact .inr ⟨rfl, h⟩
end Go.Proofs.Ytpmifhjbngocmaa
