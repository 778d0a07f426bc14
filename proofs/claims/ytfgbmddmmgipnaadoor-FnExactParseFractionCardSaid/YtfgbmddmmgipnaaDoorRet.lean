/- What a call that makes a slice gives back. -/
import Derived.Test.YtfgbmddmmgipnaaDoorGr
namespace Go.Proofs.YtfgbmddmmgipnaaDoor
open Go.ChangeShapes Go.WideShapes Go.ChangeAt Go.RowKit

/-- What a call that makes a slice gives back: the slice reads as xs, its memory is new; the code is k. -/
def RetSC (xs : List Int) (k : Int) (w : World) (e : Ending) (w' : World) : Prop :=
  ∃ v, e = .returned (.tuple #[v, (.int .i64 k)]) ∧ Sl w' w.heap.size w'.heap.size v xs ∧ Below w.heap.size w w'
/-- The same with a number ahead of it. -/
def Ret3S (s : Int) (xs : List Int) (k : Int) (w : World) (e : Ending) (w' : World) : Prop :=
  ∃ v, e = .returned (.tuple #[(.int .i64 s), v, (.int .i64 k)]) ∧ Sl w' w.heap.size w'.heap.size v xs ∧ Below w.heap.size w w'
theorem Sl.weak {w : World} {L L' U : Nat} {v : Value} {xs : List Int} (h : Sl w L U v xs) (hL : L' ≤ L) : Sl w L' U v xs := by
  obtain ⟨hu, a, cap, rfl, hc⟩ := h
  refine ⟨hu, a, cap, rfl, fun h0 => ?_⟩
  obtain ⟨g, off, rfl, hg, r⟩ := hc h0
  exact ⟨g, off, rfl, Nat.le_trans hL hg, r⟩
end Go.Proofs.YtfgbmddmmgipnaaDoor
