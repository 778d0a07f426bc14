/- Contracts of RestsOf. -/
import Derived.Test.YtdcomnnpnhinfaaDoorA
import Derived.Test.YtdcomnnpnhinfaaDoorSl
namespace Go.Proofs.YtdcomnnpnhinfaaDoor
open Go.ChangeShapes Go.WideShapes Go.ChangeAt Go.RowKit

/-- the rest of x by n -/
def rst (x n : Int) : Int := (x.tmod n + n) % n
theorem rem_bd {x n : Int} (hn : 1 ≤ n) : -n < x.tmod n ∧ x.tmod n < n := by
  have h3 : (x.tmod n).natAbs = x.natAbs % n.natAbs := Int.natAbs_tmod x n
  have h4 : x.natAbs % n.natAbs < n.natAbs := Nat.mod_lt _ (by omega)
  omega

theorem l01Mod_any (x n : Int) (h1 : 1 ≤ n) (h2 : n ≤ 1000000) (hx : I64 x) (w : World) :
    Calls Tryd.prog 59 #[(.int .i64 x), (.int .i64 n)] w fun e w' => e = .returned (.int .i64 (rst x n)) ∧ w = w' := by
  obtain ⟨_, _⟩ := hx
  obtain ⟨_, _⟩ := rem_bd (x := x) h1
  have h3 : 0 ≤ x.tmod n + n := by omega
  go_enter Tryd.func59, Tryd.ntmps59
  go_wp2
  go_ret
  exact ⟨rfl, rfl⟩

theorem restOf_any (x n : Int) (h1 : 1 ≤ n) (h2 : n ≤ 1000000) (hx : I64 x) (w : World) :
    Calls Tryd.prog 91 #[(.int .i64 x), (.int .i64 n)] w fun e w' => e = .returned (.int .i64 (rst x n)) ∧ w = w' := by
  obtain ⟨_, _⟩ := hx
  obtain ⟨_, _⟩ := rem_bd (x := x) h1
  have h3 : 0 ≤ x.tmod n + n := by omega
  go_enter Tryd.func91, Tryd.ntmps91
  go_wp2
  go_ret
  exact ⟨rfl, rfl⟩

/-- What a call that makes a slice gives back: the slice reads as xs, its memory is new; the code is k. -/
def RetS (xs : List Int) (k : Int) (w : World) (e : Ending) (w' : World) : Prop :=
  ∃ v, e = .returned (.tuple #[v, (.int .i64 k)]) ∧ Sl w' w.heap.size w'.heap.size v xs ∧ Below w.heap.size w w'

end Go.Proofs.YtdcomnnpnhinfaaDoor
