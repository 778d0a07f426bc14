/- What stays where a loop's books and an iterator's boxes turn. -/
import Derived.Test.YtejghidllochoaaCvI
namespace Go.Proofs.Ytejghidllochoaa
open Go.ChangeShapes Go.WideShapes Go.ChangeAt Go.RowKit

theorem Box.ownC {W W' : World} {g B U : Nat} {xs : List Value} {row : Option Nat} (h : Box W g xs) (hg : W.grownBy W' row) (hr : ∀ r, row = some r → B ≤ r ∧ r < U) (hn : g < B ∨ U ≤ g) : Box W' g xs :=
  h.of_heap (hg.block g h.1 (fun e => by have := hr g e.symm; omega)) hg.size
theorem grownBy_set (W : World) (p : Addr) (v : Value) : W.grownBy (W.setCell p v) (some p.block) :=
  ⟨rfl, rfl, rfl, by simp [World.setCell], fun k _ hk => Below.heap_setCell W p v k (fun e => hk (by rw [e]))⟩
theorem Box.far2' {w : World} {g b : Nat} {xs : List Value} (h : Box w g xs) (hne : g ≠ b) (u v : Value) : Box ((w.setCell ⟨b, 0, none⟩ u).setCell ⟨b, 1, none⟩ v) g xs := (h.far hne u).far hne v
theorem below_ownC {w W W' : World} {n B U : Nat} {row : Option Nat} (h : Below n w W) (hg : W.grownBy W' row) (hr : ∀ r, row = some r → B ≤ r ∧ r < U) (hn : n ≤ B) (hz : n ≤ W.heap.size) : Below n w W' :=
  h.grown hg hz (fun k e => by have := hr k e; omega)
end Go.Proofs.Ytejghidllochoaa
