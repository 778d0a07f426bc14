/- Rests by numbers up to 1000000000. -/
import Derived.Test.YthggpcdbnopabaaRest
namespace Go.Proofs.Ythggpcdbnopabaa
open Go.ChangeShapes Go.WideShapes Go.ChangeAt Go.RowKit

theorem l01Mod_big (x n : Int) (h1 : 1 ≤ n) (h2 : n ≤ 1000000000) (hx : I64 x) (w : World) :
    Calls Try.prog 47 #[(.int .i64 x), (.int .i64 n)] w fun e w' => e = .returned (.int .i64 (rst x n)) ∧ w = w' := by
  obtain ⟨_, _⟩ := hx
  obtain ⟨_, _⟩ := rem_bd (x := x) h1
  have h3 : 0 ≤ x.tmod n + n := by omega
  go_enter Try.func47, Try.ntmps47
  go_wp2
  go_ret
  exact ⟨rfl, rfl⟩
theorem restOf_big (x n : Int) (h1 : 1 ≤ n) (h2 : n ≤ 1000000000) (hx : I64 x) (w : World) :
    Calls Try.prog 44 #[(.int .i64 x), (.int .i64 n)] w fun e w' => e = .returned (.int .i64 (rst x n)) ∧ w = w' := by
  obtain ⟨_, _⟩ := hx
  obtain ⟨_, _⟩ := rem_bd (x := x) h1
  have h3 : 0 ≤ x.tmod n + n := by omega
  go_enter Try.func44, Try.ntmps44
  go_wp2
  go_ret
  exact ⟨rfl, rfl⟩
/-- what toothOf gives -/
def tth (q r : Int) : Int := if r = 0 then 0 else 2 * r - q
theorem toothOf_any (r q : Int) (h1 : 0 ≤ r) (h2 : r < q) (h3 : q ≤ 1000000000) (w : World) :
    Calls Try.prog 43 #[(.int .i64 r), (.int .i64 q)] w fun e w' => e = .returned (.int .i64 (tth q r)) ∧ w = w' := by
  by_cases h : r = 0
  · have H := Lib.hid (show (0 : Int) = tth q r by rw [tth, if_pos h])
    have hb : (r == 0) = true := by simp [h]
    clear h
    go_enter Try.func43, Try.ntmps43
    go_wp2
    go_ret
    exact ⟨ret_int H.out, rfl⟩
  · have H := Lib.hid (show 2 * r - q = tth q r by rw [tth, if_neg h])
    have hb : (r == 0) = false := by simp [h]
    clear h
    go_enter Try.func43, Try.ntmps43
    go_wp2
    go_ret
    exact ⟨ret_int H.out, rfl⟩
end Go.Proofs.Ythggpcdbnopabaa
