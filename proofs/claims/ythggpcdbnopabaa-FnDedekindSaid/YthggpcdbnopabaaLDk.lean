/- The law FnDedekind at any argument. -/
import Derived.Test.YthggpcdbnopabaaLDl
import Derived.Test.YthggpcdbnopabaaLDb
import Derived.Test.YthggpcdbnopabaaOpenB
namespace Go.Proofs.Ythggpcdbnopabaa
open Go.ChangeShapes Go.WideShapes Go.ChangeAt Go.RowKit
theorem lawDedekind_any (ad : Option Addr) (n cap : Nat) {w0 : World} (hb : Bs w0 ad n) (_ : n ≤ 9223372036854775807) (w : World) (h0 : w0 = w := by rfl) :
    Calls Try.prog 3 #[.slice ad n cap] w fun e w' => e = .returned (.bool true) ∧ Below w.heap.size w w' := by
  subst h0
  by_cases hn : (4096 : Int) < n
  · exact lawDedekind_big ad n cap _ hn
  · exact lawDedekind_walk ad n cap _ ⟨ad, n, cap, rfl, by omega, hb⟩ hn
end Go.Proofs.Ythggpcdbnopabaa
