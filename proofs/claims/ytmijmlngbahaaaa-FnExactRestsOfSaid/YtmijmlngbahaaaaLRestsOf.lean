/- The walk of the law FnExactRestsOf. -/
import Derived.Test.YtmijmlngbahaaaaLoRestsOf
namespace Go.Proofs.Ytmijmlngbahaaaa
open Go.ChangeShapes Go.WideShapes Go.ChangeAt Go.RowKit

theorem lawRestsOf_walk (a b c d n : Int) (_ : I64 a) (_ : I64 b) (_ : I64 c) (_ : I64 d) (_ : I64 n) (w : World) :
    Calls Try.prog 10 #[(.agg #[.int .i64 a, .int .i64 b, .int .i64 c, .int .i64 d]), (.int .i64 n)] w fun e w' => e = .returned (.bool true) ∧ Below w.heap.size w w' := by
  rcases h : isM a b c d with _ | _
  · exact lawRestsOf_of a b c d n [] 1 (by simp) (fun w => specRests_no a b c d n h w) (fun w => implRests_no a b c d n h w) w
  · by_cases hn : 1 ≤ n ∧ n ≤ 1000000
    · exact lawRestsOf_of a b c d n [rst a n, rst b n, rst c n, rst d n] 0 (by simp) (fun w => specRests_yes a b c d n h hn.1 hn.2 w) (fun w => implRests_yes a b c d n h hn.1 hn.2 w) w
    · exact lawRestsOf_of a b c d n [] 2 (by simp) (fun w => specRests_range a b c d n h hn w) (fun w => implRests_range a b c d n h hn w) w
end Go.Proofs.Ytmijmlngbahaaaa
