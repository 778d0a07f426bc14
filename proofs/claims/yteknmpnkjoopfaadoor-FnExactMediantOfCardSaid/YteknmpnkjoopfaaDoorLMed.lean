/- The walk of the law FnExactMediantOf. -/
import Derived.Test.YteknmpnkjoopfaaDoorMed
import Derived.Test.YteknmpnkjoopfaaDoorLoMediantOf
namespace Go.Proofs.YteknmpnkjoopfaaDoor
open Go.ChangeShapes Go.WideShapes Go.ChangeAt Go.RowKit

theorem lawMediantOf_walk (p q s t : Int) (_ : I64 p) (_ : I64 q) (_ : I64 s) (_ : I64 t) (w : World) (ea : Addr) (hid : Er w ea) :
    Calls Tryd.prog 7 #[(.agg #[.int .i64 p, .int .i64 q]), (.agg #[.int .i64 s, .int .i64 t])] w fun e w' => e = .returned (.bool true) ∧ Below w.heap.size w w' := by
  by_cases h : isF p q = true ∧ isF s t = true
  · obtain ⟨h1, h2⟩ := h
    obtain ⟨x, hx⟩ : ∃ x, lowP (p + s) (q + t) = x := ⟨_, rfl⟩
    obtain ⟨y, hy⟩ : ∃ y, lowQ (p + s) (q + t) = y := ⟨_, rfl⟩
    have e : allW [x, y] 1000000000 = (inW x 1000000000 && inW y 1000000000) := by simp [allW]
    exact lawMediantOf_of p q s t _ _ _ ea (fun w => specMed_yes _ _ p q s t x y h1 h2 hx hy rfl rfl w) (fun w _ => implMed_yes _ p q s t x y h1 h2 hx hy e w) w hid
  · exact lawMediantOf_of p q s t 0 0 1 ea (fun w => specMed_no p q s t h w) (fun w hE => implMed_no p q s t h ea w hE) w hid
end Go.Proofs.YteknmpnkjoopfaaDoor
