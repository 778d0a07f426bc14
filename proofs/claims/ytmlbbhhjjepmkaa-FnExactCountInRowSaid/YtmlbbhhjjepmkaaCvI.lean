/- impl.convergents: the iterator's contract. -/
import Derived.Test.YtmlbbhhjjepmkaaCvM
import Derived.Test.YtmlbbhhjjepmkaaRfL
import Derived.Sort.CutIn
import Derived.Sort.QuietIn
namespace Go.Proofs.Ytmlbbhhjjepmkaa
open Go.ChangeShapes Go.WideShapes Go.ChangeAt Go.RowKit Go.Shelf
attribute [local go_sem] Oper.semAt_some

theorem Box.of_heap {w w' : World} {g : Nat} {xs : List Value} (h : Box w g xs) (he : w'.heap[g]? = w.heap[g]?) (hs : w.heap.size ≤ w'.heap.size) : Box w' g xs :=
  ⟨Nat.lt_of_lt_of_le h.1 hs, fun i v hv => ⟨(World.cell?_of_block (a := ⟨g, i, none⟩) he).trans (h.2 i v hv).1, (World.frozen?_of_block (a := ⟨g, i, none⟩) he).trans (h.2 i v hv).2⟩⟩
def encF (x : Int × Int) : Array Value := #[(.agg #[.int .i64 x.1, .int .i64 x.2])]
theorem OwnC.set {β : Type} {B U : Nat} {J : β → World → Prop} (h : OwnC B U J) {s : β} {W : World} (hs : J s W) {p : Addr} (h1 : B ≤ p.block) (h2 : p.block < U) (v : Value) : J s (W.setCell p v) :=
  h s W _ (some p.block) hs ⟨rfl, rfl, rfl, by simp [World.setCell], fun k _ hk => Below.heap_setCell W p v k (fun e => hk (by rw [e]))⟩ (fun r e => by cases e; exact ⟨h1, h2⟩)
theorem OwnC.alloc {β : Type} {B U : Nat} {J : β → World → Prop} (h : OwnC B U J) {s : β} {W : World} (hs : J s W) (o : Obj) : J s (W.alloc o) :=
  h s W _ none hs (World.grownBy_alloc W o none) (fun r e => by cases e)
theorem OwnC.drew {β : Type} {B U : Nat} {J : β → World → Prop} (h : OwnC B U J) {s : β} {W : World} (hs : J s W) : J s W.drew :=
  h s W _ none hs ⟨rfl, rfl, rfl, Nat.le_refl _, fun _ _ _ => rfl⟩ (fun r e => by cases e)

end Go.Proofs.Ytmlbbhhjjepmkaa
