/- Slices of integers that a call has made: how they read, and the laws' helpers over them. -/
import Derived.Test.YtfgbmddmmgipnaaDoorBase
namespace Go.Proofs.YtfgbmddmmgipnaaDoor
open Go.ChangeShapes Go.WideShapes Go.ChangeAt Go.RowKit

/-- The value v is a slice that reads as xs; its memory lies in one block from L on and below U, not frozen. -/
def Sl (w : World) (L U : Nat) (v : Value) (xs : List Int) : Prop :=
  U ≤ w.heap.size ∧ ∃ (a : Option Addr) (cap : Nat), v = .slice a xs.length cap ∧ (0 < xs.length → ∃ g off, a = some ⟨g, off, none⟩ ∧ L ≤ g ∧ g < U ∧
    ∀ k, k < xs.length → w.cell? ⟨g, off + k, none⟩ = some (.int .i64 (xs.getD k 0)) ∧ w.frozen? ⟨g, off + k, none⟩ = false)

theorem Sl.nil (w : World) (L U : Nat) (h : U ≤ w.heap.size) : Sl w L U (.slice none 0 0) [] := ⟨h, none, 0, rfl, fun h => absurd h (by simp)⟩
theorem Sl.below {w w' : World} {L U : Nat} {v : Value} {xs : List Int} (h : Sl w L U v xs) (hb : Below U w w') : Sl w' L U v xs := by
  obtain ⟨hu, a, cap, rfl, hc⟩ := h
  refine ⟨Nat.le_trans hu hb.size, a, cap, rfl, fun hn => ?_⟩
  obtain ⟨g, off, rfl, hg, hg', hcell⟩ := hc hn
  refine ⟨g, off, rfl, hg, hg', fun k hk => ?_⟩
  rw [hb.cell (p := ⟨g, off + k, none⟩) hg', hb.frozen (p := ⟨g, off + k, none⟩) hg']
  exact hcell k hk
theorem Sl.own {w w' : World} {L U : Nat} {v : Value} {xs : List Int} (h : Sl w L U v xs) (hb : Below w.heap.size w w') : Sl w' L U v xs := h.below (hb.mono h.1)

/-- m, m + 1, .. -/
def ramp (m : Int) (n : Nat) : List Int := (List.range n).map fun i : Nat => m + (i : Int)
theorem ramp_length (m : Int) (n : Nat) : (ramp m n).length = n := by simp [ramp]
theorem ramp_get (m : Int) (n k : Nat) (h : k < n) : (ramp m n).getD k 0 = m + k := by simp [ramp, List.getD, h]

/-- After k marks: the first k of the ramp, then the rest of xs. -/
def part (m : Int) (xs : List Int) (k : Nat) : List Int := ramp m k ++ xs.drop k
theorem part_length (m : Int) (xs : List Int) (k : Nat) (h : k ≤ xs.length) : (part m xs k).length = xs.length := by simp [part, ramp_length]; omega
theorem part_zero (m : Int) (xs : List Int) : part m xs 0 = xs := by simp [part, ramp]
theorem part_all (m : Int) (xs : List Int) : part m xs xs.length = ramp m xs.length := by simp [part]
theorem part_get (m : Int) (xs : List Int) (k j : Nat) : (part m xs k).getD j 0 = if j < k then m + j else xs.getD j 0 := by
  unfold part
  by_cases h : j < k
  · rw [if_pos h, List.getD, List.getElem?_append_left (by rw [ramp_length]; exact h)]
    exact ramp_get m k j h
  · rw [if_neg h, List.getD, List.getElem?_append_right (by rw [ramp_length]; omega), ramp_length, List.getElem?_drop, show k + (j - k) = j by omega]
    rfl

theorem slice_at {w : World} {L U : Nat} {a : Option Addr} {n cap : Nat} {xs : List Int} (h : Sl w L U (.slice a n cap) xs) : n = xs.length ∧ U ≤ w.heap.size ∧
    (0 < xs.length → ∃ g off, a = some ⟨g, off, none⟩ ∧ L ≤ g ∧ g < U ∧ ∀ k, k < xs.length → w.cell? ⟨g, off + k, none⟩ = some (.int .i64 (xs.getD k 0)) ∧ w.frozen? ⟨g, off + k, none⟩ = false) := by
  obtain ⟨hu, a', cap', hv, hc⟩ := h
  injection hv with h1 h2 h3
  subst h1 h2 h3
  exact ⟨rfl, hu, hc⟩

end Go.Proofs.YtfgbmddmmgipnaaDoor
