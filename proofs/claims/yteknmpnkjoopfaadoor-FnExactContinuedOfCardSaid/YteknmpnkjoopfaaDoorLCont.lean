/- The walk of the law FnExactContinuedOf. -/
import Derived.Test.YteknmpnkjoopfaaDoorCont
import Derived.Test.YteknmpnkjoopfaaDoorLoContinuedOf
namespace Go.Proofs.YteknmpnkjoopfaaDoor
open Go.ChangeShapes Go.WideShapes Go.ChangeAt Go.RowKit

theorem lawContinuedOf_walk (p q : Int) (_ : I64 p) (_ : I64 q) (w : World) (ea : Addr) (hid : Er w ea) :
    Calls Tryd.prog 9 #[(.agg #[.int .i64 p, .int .i64 q])] w fun e w' => e = .returned (.bool true) ∧ Below w.heap.size w w' := by
  rcases h : isF p q with _ | _
  · exact lawContinuedOf_of p q [] 1 (by simp) ea (fun w => specCont_no p q h w) (fun w hE => implCont_no p q h ea w hE) w hid
  · have hE := isF_ent h
    rcases (show q = 0 ∨ 0 < q by omega) with hq | hq
    · exact lawContinuedOf_of p q [] 5 (by simp) ea (fun w => specCont_inf p q h hq w) (fun w _ => implCont_ok p q [] 5 (fun w0 g1 B => contClo_inf p q g1 h hq w0 B) w) w hid
    · have hl := cf_len q.natAbs p q
      have hb := hE.2.1
      unfold Ent at hb
      exact lawContinuedOf_of p q _ 0 (by omega) ea (fun w => specCont_yes p q h hq w) (fun w _ => implCont_ok p q _ 0 (fun w0 g1 B => contClo_yes p q g1 h hq w0 B) w) w hid
end Go.Proofs.YteknmpnkjoopfaaDoor
