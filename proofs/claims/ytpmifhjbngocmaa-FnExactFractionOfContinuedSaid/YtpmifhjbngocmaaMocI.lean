/- impl.MatrixOfChain: contract. -/
import Derived.Test.YtpmifhjbngocmaaMocM
namespace Go.Proofs.Ytpmifhjbngocmaa
open Go.ChangeShapes Go.WideShapes Go.ChangeAt Go.RowKit

theorem GrA.drew {w : World} {L n : Nat} {v : Value} {xs : List Int} (h : GrA w L v n xs) : GrA w.drew L v n xs := h
theorem rd4' {w : World} {g : Nat} {x0 x1 x2 x3 : Value} (h : Rd w g [x0, x1, x2, x3]) : w.cell? ⟨g, 0, none⟩ = some x0 ∧ w.cell? ⟨g, 1, none⟩ = some x1 ∧ w.cell? ⟨g, 2, none⟩ = some x2 ∧ w.cell? ⟨g, 3, none⟩ = some x3 := h.four.2
theorem flat_two (ms : List Mat) (m n : Mat) : flat (ms ++ [m, n]) = flat ms ++ [m.a, m.b, m.c, m.d, n.a, n.b, n.c, n.d] := by simp [flat]
end Go.Proofs.Ytpmifhjbngocmaa
