/- NeighbourOf: contracts of both sides. -/
import Derived.Test.YtkeadknbdihkmaaDoorNbT
namespace Go.Proofs.YtkeadknbdihkmaaDoor
open Go.ChangeShapes Go.WideShapes Go.ChangeAt Go.RowKit

/-- What NeighbourOf returns. -/
def RetT (p q r k : Int) (w : World) (e : Ending) (w' : World) : Prop := e = .returned (.tuple #[(.agg #[.int .i64 p, .int .i64 q, .int .i64 r]), (.int .i64 k)]) ∧ Below w.heap.size w w'
theorem implIsT_is (b0 : Bool) (a b c : Int) (h : isT a b c = b0) (w : World) :
    Calls Tryd.prog 40 #[(.agg #[.int .i64 a, .int .i64 b, .int .i64 c])] w fun e w' => e = .returned (.bool b0) ∧ Below w.heap.size w w' := h ▸ implIsT_any a b c w
theorem specIsT_is (b0 : Bool) (a b c : Int) (h : isT a b c = b0) (w : World) :
    Calls Tryd.prog 38 #[(.agg #[.int .i64 a, .int .i64 b, .int .i64 c])] w fun e w' => e = .returned (.bool b0) ∧ Below w.heap.size w w' := h ▸ specIsT_any a b c w
theorem isT_ent {a b c : Int} (h : isT a b c = true) : Ent a ∧ Ent b ∧ Ent c := by
  obtain ⟨_, _, _, _, _⟩ := of_decide_eq_true h
  refine ⟨?_, ?_, ?_⟩
  all_goals constructor <;> omega

end Go.Proofs.YtkeadknbdihkmaaDoor
