/- The walk of the law FnExactSawTooth. -/
import Derived.Test.YtajfjfgpiggekaaSaw
import Derived.Test.YtajfjfgpiggekaaLoSawTooth
namespace Go.Proofs.Ytajfjfgpiggekaa
open Go.ChangeShapes Go.WideShapes Go.ChangeAt Go.RowKit

theorem saw_one (p : Int) : lowP (tth 1 (rst p 1)) (2 * 1) = 0 ∧ lowQ (tth 1 (rst p 1)) (2 * 1) = 1 := by
  have h := rst_bd (x := p) (n := 1) (by omega)
  have h0 : rst p 1 = 0 := by omega
  rw [h0]
  decide
theorem lawSawTooth_walk (p q : Int) (_ : I64 p) (_ : I64 q) (w : World) :
    Calls Try.prog 3 #[(.agg #[.int .i64 p, .int .i64 q])] w fun e w' => e = .returned (.bool true) ∧ Below w.heap.size w w' := by
  rcases h : isF p q with _ | _
  · exact lawSawTooth_of p q 0 0 1 (fun w => specSaw_no p q h w) (fun w => implSaw_no p q h w) w
  have hq := (isF_bd h).2.1
  rcases (show q = 0 ∨ q = 1 ∨ 1 < q by omega) with rfl | rfl | h1
  · exact lawSawTooth_of p 0 0 0 5 (fun w => specSaw_inf p h w) (fun w => implSaw_inf p h w) w
  · exact lawSawTooth_of p 1 0 1 0 (fun w => specSaw_one p h w) (fun w => implSaw_yes true p 1 0 1 h (by omega) (saw_one p).1 (saw_one p).2 (by decide) w) w
  · exact lawSawTooth_of p q _ _ _ (fun w => specSaw_yes _ p q _ _ h h1 rfl rfl rfl w) (fun w => implSaw_yes _ p q _ _ h (by omega) rfl rfl rfl w) w
end Go.Proofs.Ytajfjfgpiggekaa
