/- MatrixOfChain: both sides over a slice, and the law's walk. -/
import Derived.Test.YtpmifhjbngocmaaMocI
import Derived.Test.YtpmifhjbngocmaaMocS
import Derived.Test.YtpmifhjbngocmaaLoMatrixOfChain
namespace Go.Proofs.Ytpmifhjbngocmaa
open Go.ChangeShapes Go.WideShapes Go.ChangeAt Go.RowKit

theorem sl_open {w : World} {L U : Nat} {v : Value} {xs : List Int} (h : Sl w L U v xs) : ∃ a cap, v = .slice a xs.length cap ∧ (0 < xs.length → ∃ g off, a = some ⟨g, off, none⟩ ∧ g < w.heap.size ∧ ∀ k, k < xs.length → w.cell? ⟨g, off + k, none⟩ = some (.int .i64 (xs.getD k 0))) := by
  obtain ⟨hu, a, cap, rfl, hc⟩ := h
  refine ⟨a, cap, rfl, fun h0 => ?_⟩
  obtain ⟨g, off, rfl, _, hg, r⟩ := hc h0
  exact ⟨g, off, rfl, Nat.lt_of_lt_of_le hg hu, fun k hk => (r k hk).1⟩
theorem sl_cap {w : World} {L U : Nat} {v : Value} {xs : List Int} (h : Sl w L U v xs) (hk : ∃ a, v = .slice a xs.length xs.length) (h0 : 0 < xs.length) :
    ∃ g off, v = .slice (some ⟨g, off, none⟩) xs.length xs.length ∧ g < w.heap.size ∧ ∀ k, k < xs.length → w.cell? ⟨g, off + k, none⟩ = some (.int .i64 (xs.getD k 0)) := by
  obtain ⟨a, rfl⟩ := hk
  obtain ⟨a', c, he, ho⟩ := sl_open h
  injection he with h1 h2 h3
  obtain ⟨g, off, h4, hg, hc⟩ := ho h0
  exact ⟨g, off, by rw [h1, h4], hg, hc⟩
end Go.Proofs.Ytpmifhjbngocmaa
