/- The walk of the law FnExactValuesOf. -/
import Derived.Test.YtfpgdbdgglbleaaLwValuesOf
import Derived.Test.YtfpgdbdgglbleaaVi
import Derived.Test.YtfpgdbdgglbleaaVp
namespace Go.Proofs.Ytfpgdbdgglbleaa
open Go.ChangeShapes Go.WideShapes Go.ChangeAt Go.RowKit

theorem lawValuesOf_walk (a b c n : Int) (_ : I64 a) (_ : I64 b) (_ : I64 c) (_ : I64 n) (w : World) :
    Calls Try.prog 10 #[(.agg #[.int .i64 a, .int .i64 b, .int .i64 c]), (.int .i64 n)] w fun e w' => e = .returned (.bool true) ∧ Below w.heap.size w w' := by
  rcases h : isQ a b c with _ | _
  · exact lawValuesOf_of a b c n [] 1 (by simp) (fun w => specVO_no a b c n h w) (fun w => implVO_no a b c n h w) w
  by_cases hn : 0 ≤ n ∧ n ≤ 10
  · obtain ⟨N, hN⟩ : ∃ N : Nat, (N : Int) = n := ⟨n.toNat, by omega⟩
    refine lawValuesOf_of a b c n (valuesV a b c N) 0 ?_ (fun w => specVO_yes a b c n N _ h hN hn.2 rfl w) (fun w => implVO_yes a b c n N _ h hN hn.2 rfl w) w
    have h1 := allV_len (rowsV a b c N 0 (2 * N + 1) (N + 1)) []
    rw [rowsV_len] at h1
    have h2 : (N + 1) * (2 * N + 1) ≤ 11 * 21 := Nat.mul_le_mul (by omega) (by omega)
    unfold valuesV
    simp at h1
    omega
  · have hR : inR n 0 10 = false := decide_eq_false hn
    exact lawValuesOf_of a b c n [] 2 (by simp) (fun w => specVO_range a b c n h hR w) (fun w => implVO_range a b c n h hn w) w
end Go.Proofs.Ytfpgdbdgglbleaa
