/- Contracts of the inverse matrices. -/
import Derived.Test.YtfchfakkbdfajaaDoorA
namespace Go.Proofs.YtfchfakkbdfajaaDoor
open Go.ChangeShapes Go.WideShapes Go.ChangeAt Go.RowKit

set_option maxHeartbeats 400000 in
theorem implInverse_any (a b c d : Int) (hb : -9223372036854775807 ≤ b) (hb' : b ≤ 9223372036854775807) (hc : -9223372036854775807 ≤ c) (hc' : c ≤ 9223372036854775807) (w : World) :
    Calls Tryd.prog 57 #[(.agg #[.int .i64 a, .int .i64 b, .int .i64 c, .int .i64 d])] w fun e w' => e = .returned (.agg #[.int .i64 d, .int .i64 (-b), .int .i64 (-c), .int .i64 a]) ∧ Below w.heap.size w w' := by
  go_enter Tryd.func57, Tryd.ntmps57
  go_wp2
  exact bodyPost_ret (v := (.agg #[.int .i64 d, .int .i64 (-b), .int .i64 (-c), .int .i64 a])) (by simp [results, Tryd.results57, go_sem]) rfl ⟨rfl, by repeat (first | with_reducible exact own_refl _ | with_reducible assumption | with_reducible apply own_alloc | with_reducible apply own_drewN | with_reducible apply own_drew | ((with_reducible refine own_setCell ?_ ?_ _); rotate_left; focus (first | (simp; done) | (simp; omega))) | (with_reducible (refine own_trans ?_ (by assumption))))⟩


theorem implInverse_ent (a b c d : Int) (hb : Ent b) (hc : Ent c) (w : World) :
    Calls Tryd.prog 57 #[(.agg #[.int .i64 a, .int .i64 b, .int .i64 c, .int .i64 d])] w fun e w' => e = .returned (.agg #[.int .i64 d, .int .i64 (-b), .int .i64 (-c), .int .i64 a]) ∧ Below w.heap.size w w' := by
  unfold Ent at hb hc
  exact implInverse_any a b c d (by omega) (by omega) (by omega) (by omega) w

end Go.Proofs.YtfchfakkbdfajaaDoor
