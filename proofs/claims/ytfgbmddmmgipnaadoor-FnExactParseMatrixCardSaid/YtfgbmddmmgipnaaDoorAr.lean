/- impl.areRuns: contract. -/
import Derived.Test.YtfgbmddmmgipnaaDoorA
import Derived.Test.YtfgbmddmmgipnaaDoorToS
namespace Go.Proofs.YtfgbmddmmgipnaaDoor
open Go.ChangeShapes Go.WideShapes Go.ChangeAt Go.RowKit

/-- the i-th number of a list of runs may be x -/
def okRun (i : Nat) (x : Int) : Bool := decide (0 ≤ x ∧ x ≤ 1000000000 ∧ (i = 0 ∨ x ≠ 0))
def okFrom : Nat → List Int → Bool
  | _, [] => true
  | i, x :: r => okRun i x && okFrom (i + 1) r
/-- a list is one of runs -/
def runsOk (xs : List Int) : Bool := decide (xs.length ≤ 100) && (decide (xs ≠ [0]) && okFrom 0 xs)
theorem okFrom_step {xs : List Int} {k : Nat} (hk : k < xs.length) {x : Int} (hx : xs.getD k 0 = x) : okFrom k (xs.drop k) = (okRun k x && okFrom (k + 1) (xs.drop (k + 1))) := by
  subst hx
  rw [List.drop_eq_getElem_cons hk, okFrom]
  simp [List.getD, List.getElem?_eq_getElem hk]

end Go.Proofs.YtfgbmddmmgipnaaDoor
