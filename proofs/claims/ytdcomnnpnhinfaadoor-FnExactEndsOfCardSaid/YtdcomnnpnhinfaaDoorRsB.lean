/- Rests by numbers up to 1000000000. -/
import Derived.Test.YtdcomnnpnhinfaaDoorRest
namespace Go.Proofs.YtdcomnnpnhinfaaDoor
open Go.ChangeShapes Go.WideShapes Go.ChangeAt Go.RowKit

theorem l01Mod_big (x n : Int) (h1 : 1 ≤ n) (h2 : n ≤ 1000000000) (hx : I64 x) (w : World) :
    Calls Tryd.prog 59 #[(.int .i64 x), (.int .i64 n)] w fun e w' => e = .returned (.int .i64 (rst x n)) ∧ w = w' := by
  obtain ⟨_, _⟩ := hx
  obtain ⟨_, _⟩ := rem_bd (x := x) h1
  have h3 : 0 ≤ x.tmod n + n := by omega
  go_enter Tryd.func59, Tryd.ntmps59
  go_wp2
  go_ret
  exact ⟨rfl, rfl⟩
theorem restOf_big (x n : Int) (h1 : 1 ≤ n) (h2 : n ≤ 1000000000) (hx : I64 x) (w : World) :
    Calls Tryd.prog 91 #[(.int .i64 x), (.int .i64 n)] w fun e w' => e = .returned (.int .i64 (rst x n)) ∧ w = w' := by
  obtain ⟨_, _⟩ := hx
  obtain ⟨_, _⟩ := rem_bd (x := x) h1
  have h3 : 0 ≤ x.tmod n + n := by omega
  go_enter Tryd.func91, Tryd.ntmps91
  go_wp2
  go_ret
  exact ⟨rfl, rfl⟩
/-- what toothOf gives -/
def tth (q r : Int) : Int := if r = 0 then 0 else 2 * r - q
end Go.Proofs.YtdcomnnpnhinfaaDoor
