/- The law FnDedekind at an argument beyond its bound. -/
import Derived.Test.YthggpcdbnopabaaLkI
namespace Go.Proofs.Ythggpcdbnopabaa
open Go.ChangeShapes Go.WideShapes Go.ChangeAt Go.RowKit
set_option maxRecDepth 100000 in
set_option maxHeartbeats 4000000 in
theorem lawDedekind_big (ad : Option Addr) (n cap : Nat) (w : World) (hn : (4096 : Int) < n) :
    Calls Try.prog 3 #[.slice ad n cap] w fun e w' => e = .returned (.bool true) ∧ Below w.heap.size w w' := by
  have hb0 : decide ((4096 : Int) < n) = true := decide_eq_true hn
  clear hn
  go_enter Try.func3, Try.ntmps3
  go_wp2_with fail
  refine (big_is ad n cap _).mono ?_
  rintro e w1 ⟨rfl, rfl⟩
  rw [hb0]
  go_wp2
  go_ret
  exact ⟨rfl, own_refl _⟩
end Go.Proofs.Ythggpcdbnopabaa
