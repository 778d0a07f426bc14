/- The walks of the laws FnExactConjugateBy and FnExactCommutatorOf. -/
import Derived.Test.YtamibhpaamhjmaaDoorLoConjugateBy
import Derived.Test.YtamibhpaamhjmaaDoorLoCommutatorOf
namespace Go.Proofs.YtamibhpaamhjmaaDoor
open Go.ChangeShapes Go.WideShapes Go.ChangeAt Go.RowKit

theorem lawConjugateBy_walk (a b c d e f g h : Int) (_ : I64 a) (_ : I64 b) (_ : I64 c) (_ : I64 d) (_ : I64 e) (_ : I64 f) (_ : I64 g) (_ : I64 h) (w : World) (hid : Idn w) :
    Calls Tryd.prog 7 #[(.agg #[.int .i64 a, .int .i64 b, .int .i64 c, .int .i64 d]), (.agg #[.int .i64 e, .int .i64 f, .int .i64 g, .int .i64 h])] w fun e w' => e = .returned (.bool true) ∧ Below w.heap.size w w' := by
  obtain ⟨r, k, hPA⟩ := PA_ex [⟨e, f, g, h⟩, ⟨a, b, c, d⟩, Mat.inv ⟨e, f, g, h⟩]
  exact lawConjugateBy_of a b c d e f g h r.a r.b r.c r.d k (fun w => specConj_all ⟨a, b, c, d⟩ ⟨e, f, g, h⟩ r k hPA w) (fun w hi => implConj_any ⟨a, b, c, d⟩ ⟨e, f, g, h⟩ r k hPA w hi) w hid

theorem lawCommutatorOf_walk (a b c d e f g h : Int) (_ : I64 a) (_ : I64 b) (_ : I64 c) (_ : I64 d) (_ : I64 e) (_ : I64 f) (_ : I64 g) (_ : I64 h) (w : World) (hid : Idn w) :
    Calls Tryd.prog 8 #[(.agg #[.int .i64 a, .int .i64 b, .int .i64 c, .int .i64 d]), (.agg #[.int .i64 e, .int .i64 f, .int .i64 g, .int .i64 h])] w fun e w' => e = .returned (.bool true) ∧ Below w.heap.size w w' := by
  obtain ⟨r, k, hPA⟩ := PA_ex [⟨a, b, c, d⟩, ⟨e, f, g, h⟩, Mat.inv ⟨a, b, c, d⟩, Mat.inv ⟨e, f, g, h⟩]
  exact lawCommutatorOf_of a b c d e f g h r.a r.b r.c r.d k (fun w => specComm_all ⟨a, b, c, d⟩ ⟨e, f, g, h⟩ r k hPA w) (fun w hi => implComm_any ⟨a, b, c, d⟩ ⟨e, f, g, h⟩ r k hPA w hi) w hid
end Go.Proofs.YtamibhpaamhjmaaDoor
