/- The walk of the law FnExactMatrixOfNeighbours. -/
import Derived.Test.YteknmpnkjoopfaaDoorMoN
import Derived.Test.YteknmpnkjoopfaaDoorLoMatrixOfNeighbours
namespace Go.Proofs.YteknmpnkjoopfaaDoor
open Go.ChangeShapes Go.WideShapes Go.ChangeAt Go.RowKit

theorem lawMatrixOfNeighbours_walk (p q s t : Int) (_ : I64 p) (_ : I64 q) (_ : I64 s) (_ : I64 t) (w : World) (ea : Addr) (hid : Er w ea) :
    Calls Tryd.prog 8 #[(.agg #[.int .i64 p, .int .i64 q]), (.agg #[.int .i64 s, .int .i64 t])] w fun e w' => e = .returned (.bool true) ∧ Below w.heap.size w w' := by
  by_cases h : isF p q = true ∧ isF s t = true
  · obtain ⟨h1, h2⟩ := h
    obtain ⟨D, hD⟩ : ∃ D, detF p q s t = D := ⟨_, rfl⟩
    by_cases hd : D = 1 ∨ D = -1
    · exact lawMatrixOfNeighbours_of p q s t p (D * s) q (D * t) 0 ea (fun w => specMoN_near p q s t D _ _ h1 h2 hD hd rfl rfl w) (fun w _ => implMoN_near p q s t D _ _ h1 h2 hD hd rfl rfl w) w hid
    · exact lawMatrixOfNeighbours_of p q s t 0 0 0 0 5 ea (fun w => specMoN_far p q s t D h1 h2 hD (by simp; omega) w) (fun w _ => implMoN_far p q s t D h1 h2 hD (by simp; omega) w) w hid
  · exact lawMatrixOfNeighbours_of p q s t 0 0 0 0 1 ea (fun w => specMoN_bad p q s t h w) (fun w hE => implMoN_bad p q s t h ea w hE) w hid
end Go.Proofs.YteknmpnkjoopfaaDoor
