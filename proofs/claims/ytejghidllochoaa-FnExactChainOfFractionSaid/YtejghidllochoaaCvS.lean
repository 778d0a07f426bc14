/- spec.l03Convergents: contract. -/
import Derived.Test.YtejghidllochoaaCvM
import Derived.Test.YtejghidllochoaaGrFk
import Derived.Test.YtejghidllochoaaMul
namespace Go.Proofs.Ytejghidllochoaa
open Go.ChangeShapes Go.WideShapes Go.ChangeAt Go.RowKit

def okQ (p : Int × Int) : Bool := inW p.1 1000000000 && inW p.2 1000000000
def flatQ (ps : List (Int × Int)) : List Int := ps.flatMap fun p => [p.1, p.2]
theorem flatQ_snoc (ps : List (Int × Int)) (p : Int × Int) : flatQ (ps ++ [p]) = flatQ ps ++ [p.1, p.2] := by simp [flatQ]
theorem flatQ_len (ps : List (Int × Int)) : (flatQ ps).length = 2 * ps.length := by
  induction ps with
  | nil => rfl
  | cons p r ih => simp only [flatQ, List.flatMap_cons, List.length_append, List.length_cons, List.length_nil] at *; omega
theorem ok_prefix {ps qs : List (Int × Int)} (h : ps <+: qs) (hp : ps.all okQ = false) : qs.all okQ = false := by
  obtain ⟨t, rfl⟩ := h
  simp [List.all_append, hp]
theorem Box.of_heapS {w w' : World} {g : Nat} {xs : List Value} (h : Box w g xs) (he : w'.heap[g]? = w.heap[g]?) (hs : w.heap.size ≤ w'.heap.size) : Box w' g xs :=
  ⟨Nat.lt_of_lt_of_le h.1 hs, fun i v hv => ⟨(World.cell?_of_block (a := ⟨g, i, none⟩) he).trans (h.2 i v hv).1, (World.frozen?_of_block (a := ⟨g, i, none⟩) he).trans (h.2 i v hv).2⟩⟩
/-- What l03Convergents gives back. -/
def RetC (r : Bool) (n : Nat) (xs : List Int) (w : World) (e : Ending) (w' : World) : Prop :=
  ((r = true ∧ ∃ v, e = .returned (.tuple #[v, .bool true]) ∧ GrF w' w.heap.size v n xs) ∨ (r = false ∧ e = .returned (.tuple #[.slice none 0 0, .bool false]))) ∧ Below w.heap.size w w'
end Go.Proofs.Ytejghidllochoaa
