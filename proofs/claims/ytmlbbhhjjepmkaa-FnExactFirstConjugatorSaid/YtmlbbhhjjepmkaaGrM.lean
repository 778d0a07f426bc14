/- The law's comparison of slices of matrices. -/
import Derived.Test.YtmlbbhhjjepmkaaGrA
import Derived.Test.YtmlbbhhjjepmkaaSl0
import Derived.Test.YtmlbbhhjjepmkaaB
namespace Go.Proofs.Ytmlbbhhjjepmkaa
open Go.ChangeShapes Go.WideShapes Go.ChangeAt Go.RowKit

theorem flat_at {w : World} {g n k : Nat} {xs : List Int} (hc : ∀ k, k < 4 * n → w.cell? ⟨g, k, none⟩ = some (.int .i64 (xs.getD k 0)) ∧ w.frozen? ⟨g, k, none⟩ = false) (hk : k < n) :
    w.cell? ⟨g, k * 4, none⟩ = some (.int .i64 (xs.getD (4 * k + 0) 0)) ∧ w.cell? ⟨g, k * 4 + 1, none⟩ = some (.int .i64 (xs.getD (4 * k + 1) 0)) ∧ w.cell? ⟨g, k * 4 + 2, none⟩ = some (.int .i64 (xs.getD (4 * k + 2) 0)) ∧ w.cell? ⟨g, k * 4 + 3, none⟩ = some (.int .i64 (xs.getD (4 * k + 3) 0)) := by
  rw [Nat.mul_comm k 4]
  exact ⟨(hc (4 * k + 0) (by omega)).1, (hc (4 * k + 1) (by omega)).1, (hc (4 * k + 2) (by omega)).1, (hc (4 * k + 3) (by omega)).1⟩

end Go.Proofs.Ytmlbbhhjjepmkaa
