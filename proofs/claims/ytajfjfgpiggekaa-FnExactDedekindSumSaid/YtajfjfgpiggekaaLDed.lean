/- The walk of the law FnExactDedekindSum. -/
import Derived.Test.YtajfjfgpiggekaaLoDedekindSum
import Derived.Test.YtajfjfgpiggekaaDsK
namespace Go.Proofs.Ytajfjfgpiggekaa
open Go.ChangeShapes Go.WideShapes Go.ChangeAt Go.RowKit

theorem lawDedekindSum_walk (h k : Int) (_ : I64 h) (_ : I64 k) (w : World) :
    Calls Try.prog 4 #[(.int .i64 h), (.int .i64 k)] w fun e w' => e = .returned (.bool true) ∧ Below w.heap.size w w' := by
  by_cases hr : inW h 1000000000 = true ∧ inR k 1 20000 = true
  · obtain ⟨h1, h2⟩ := hr
    by_cases hg : Int.gcd h k = 1
    · exact lawDedekindSum_of h k _ _ 0 (fun w => specDed_yes h k _ _ h1 h2 hg rfl rfl w) (fun w => implDed_yes h k _ _ h1 h2 hg rfl rfl w) w
    · have h3 : ¬ ((Int.gcd h k : Nat) : Int) = 1 := by omega
      exact lawDedekindSum_of h k 0 0 5 (fun w => specDed_no h k 5 rfl (fun w => l07Code_state h k 20000 _ h1 h2 (by omega) rfl h3 w) w) (fun w => implDed_state h k _ h1 h2 rfl h3 w) w
  · have hr : inW h 1000000000 = false ∨ (inW h 1000000000 = true ∧ inR k 1 20000 = false) := by
      cases h1 : inW h 1000000000 <;> cases h2 : inR k 1 20000 <;> simp_all
    exact lawDedekindSum_of h k 0 0 2 (fun w => specDed_no h k 2 rfl (fun w => l07Code_range h k 20000 hr w) w) (fun w => implDed_range h k hr w) w
end Go.Proofs.Ytajfjfgpiggekaa
