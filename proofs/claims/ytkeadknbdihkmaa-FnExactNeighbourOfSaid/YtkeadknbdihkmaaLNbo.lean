/- The walk of the law FnExactNeighbourOf. -/
import Derived.Test.YtkeadknbdihkmaaLoNeighbourOf
namespace Go.Proofs.Ytkeadknbdihkmaa
open Go.ChangeShapes Go.WideShapes Go.ChangeAt Go.RowKit

theorem lawNeighbourOf_walk (a b c i : Int) (_ : I64 a) (_ : I64 b) (_ : I64 c) (_ : I64 i) (w : World) :
    Calls Try.prog 4 #[(.agg #[.int .i64 a, .int .i64 b, .int .i64 c]), (.int .i64 i)] w fun e w' => e = .returned (.bool true) ∧ Below w.heap.size w w' := by
  rcases h : isT a b c with _ | _
  · exact lawNeighbourOf_of a b c i 0 0 0 1 (fun w => specNbo_inv a b c i h w) (fun w => implNbo_inv a b c i h w) w
  by_cases hi : i < 0 ∨ 3 ≤ i
  · exact lawNeighbourOf_of a b c i 0 0 0 2 (fun w => specNbo_rng a b c i h hi w) (fun w => implNbo_rng a b c i h hi w) w
  have : i = 0 ∨ i = 1 ∨ i = 2 := by omega
  rcases this with rfl | rfl | rfl
  · by_cases hl : 1000000000 < hi3 b c (3 * b * c - a)
    · exact lawNeighbourOf_of a b c 0 0 0 0 3 (fun w => specNbo_lim0 a b c (3 * b * c - a) _ _ _ h rfl rfl rfl rfl hl w) (fun w => implNbo_lim0 a b c (3 * b * c - a) _ _ _ h rfl (lo3_rot (3 * b * c - a) b c) (mi3_rot (3 * b * c - a) b c) (hi3_rot (3 * b * c - a) b c) hl w) w
    · exact lawNeighbourOf_of a b c 0 _ _ _ 0 (fun w => specNbo_yes0 a b c (3 * b * c - a) _ _ _ h rfl rfl rfl rfl hl w) (fun w => implNbo_yes0 a b c (3 * b * c - a) _ _ _ h rfl (lo3_rot (3 * b * c - a) b c) (mi3_rot (3 * b * c - a) b c) (hi3_rot (3 * b * c - a) b c) hl w) w
  · by_cases hl : 1000000000 < hi3 c a (3 * c * a - b)
    · exact lawNeighbourOf_of a b c 1 0 0 0 3 (fun w => specNbo_lim1 a b c (3 * c * a - b) _ _ _ h rfl rfl rfl rfl hl w) (fun w => implNbo_lim1 a b c (3 * c * a - b) _ _ _ h rfl ((lo3_rot a (3 * c * a - b) c).trans (lo3_rot (3 * c * a - b) c a)) ((mi3_rot a (3 * c * a - b) c).trans (mi3_rot (3 * c * a - b) c a)) ((hi3_rot a (3 * c * a - b) c).trans (hi3_rot (3 * c * a - b) c a)) hl w) w
    · exact lawNeighbourOf_of a b c 1 _ _ _ 0 (fun w => specNbo_yes1 a b c (3 * c * a - b) _ _ _ h rfl rfl rfl rfl hl w) (fun w => implNbo_yes1 a b c (3 * c * a - b) _ _ _ h rfl ((lo3_rot a (3 * c * a - b) c).trans (lo3_rot (3 * c * a - b) c a)) ((mi3_rot a (3 * c * a - b) c).trans (mi3_rot (3 * c * a - b) c a)) ((hi3_rot a (3 * c * a - b) c).trans (hi3_rot (3 * c * a - b) c a)) hl w) w
  · by_cases hl : 1000000000 < hi3 a b (3 * a * b - c)
    · exact lawNeighbourOf_of a b c 2 0 0 0 3 (fun w => specNbo_lim2 a b c (3 * a * b - c) _ _ _ h rfl rfl rfl rfl hl w) (fun w => implNbo_lim2 a b c (3 * a * b - c) _ _ _ h rfl rfl rfl rfl hl w) w
    · exact lawNeighbourOf_of a b c 2 _ _ _ 0 (fun w => specNbo_yes2 a b c (3 * a * b - c) _ _ _ h rfl rfl rfl rfl hl w) (fun w => implNbo_yes2 a b c (3 * a * b - c) _ _ _ h rfl rfl rfl rfl hl w) w
end Go.Proofs.Ytkeadknbdihkmaa
