/- The walk of the law FnExactIsTriple. -/
import Derived.Test.YtkeadknbdihkmaaLwIsTriple
namespace Go.Proofs.Ytkeadknbdihkmaa
open Go.ChangeShapes Go.WideShapes Go.ChangeAt Go.RowKit

theorem specIsT_is (r : Bool) (a b c : Int) (h : isT a b c = r) (w : World) :
    Calls Try.prog 18 #[(.agg #[.int .i64 a, .int .i64 b, .int .i64 c])] w fun e w' => e = .returned (.bool r) ∧ Below w.heap.size w w' := h ▸ specIsT_any a b c w
set_option maxHeartbeats 1000000 in
theorem specIsTriple_is (r : Bool) (a b c : Int) (h : isT a b c = r) (w : World) :
    Calls Try.prog 7 #[(.agg #[.int .i64 a, .int .i64 b, .int .i64 c])] w fun e w' => e = .returned (.bool r) ∧ Below w.heap.size w w' := by
  have H := Lib.hid h
  clear h
  go_enter Try.func7, Try.ntmps7
  go_wp2_with fail
  refine (specIsT_is r _ _ _ H.out _).mono ?_
  rintro e w1 ⟨rfl, hb1⟩
  go_wp2
  go_ret
  exact ⟨rfl, by repeat (first | with_reducible exact own_refl _ | with_reducible assumption | with_reducible apply own_alloc | with_reducible apply own_drewN | with_reducible apply own_drew | ((with_reducible refine own_setCell ?_ ?_ _); rotate_left; focus (first | (simp; done) | (simp; omega))) | (with_reducible (refine own_trans ?_ (by assumption))))⟩
theorem lawIsTriple_walk (a b c : Int) (_ : I64 a) (_ : I64 b) (_ : I64 c) (w : World) :
    Calls Try.prog 3 #[(.agg #[.int .i64 a, .int .i64 b, .int .i64 c])] w fun e w' => e = .returned (.bool true) ∧ Below w.heap.size w w' :=
  lawIsTriple_of a b c (isT a b c) (fun w => specIsTriple_is _ a b c rfl w) (fun w => implIsT_any a b c w) w
end Go.Proofs.Ytkeadknbdihkmaa
