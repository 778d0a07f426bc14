/- The law's comparison of slices of fractions. -/
import Derived.Test.YthggpcdbnopabaaGrF
import Derived.Test.YthggpcdbnopabaaSl
import Derived.Test.YthggpcdbnopabaaEqF
namespace Go.Proofs.Ythggpcdbnopabaa
open Go.ChangeShapes Go.WideShapes Go.ChangeAt Go.RowKit

theorem flat_atF {w : World} {g n k : Nat} {xs : List Int} (hc : ∀ k, k < 2 * n → w.cell? ⟨g, k, none⟩ = some (.int .i64 (xs.getD k 0)) ∧ w.frozen? ⟨g, k, none⟩ = false) (hk : k < n) :
    w.cell? ⟨g, k * 2, none⟩ = some (.int .i64 (xs.getD (2 * k + 0) 0)) ∧ w.cell? ⟨g, k * 2 + 1, none⟩ = some (.int .i64 (xs.getD (2 * k + 1) 0)) := by
  rw [Nat.mul_comm k 2]
  exact ⟨(hc (2 * k + 0) (by omega)).1, (hc (2 * k + 1) (by omega)).1⟩

end Go.Proofs.Ythggpcdbnopabaa
