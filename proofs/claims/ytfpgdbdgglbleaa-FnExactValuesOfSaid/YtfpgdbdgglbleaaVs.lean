/- Sorting a slice of one's own, and taking its equal neighbours together. -/
import Derived.Test.YtfpgdbdgglbleaaShs
import Derived.Test.YtfpgdbdgglbleaaGr
import Derived.Lib.OwnBridge
namespace Go.Proofs.Ytfpgdbdgglbleaa
open Go.ChangeShapes Go.WideShapes Go.ChangeAt Go.RowKit

theorem below_grow {L : Nat} {w w1 : World} {os : Array Obj} (h : Below L w w1) (hL : L ≤ w1.heap.size) : Below L w (Sort.grow w1 os) :=
  h.trans ⟨rfl, rfl, rfl, by simp, fun k hk => Sort.heap_grow_old w1 os (by omega)⟩
theorem sort_gr (v : Value) (xs : List Int) (L : Nat) (w : World) (h : Gr w L v xs) (hx : xs ≠ []) (hn : xs.length ≤ 9000000000) (hL : L ≤ w.heap.size) :
    Calls Try.prog 56 #[v] w fun e w' => e = .returned (.tuple #[]) ∧ Gr w' L v (xs.mergeSort fun x y => decide (x ≤ y)) ∧ Below L w w' := by
  have hv : v ≠ .slice none 0 0 := by
    rintro rfl
    have := h.len
    simp only [lenOf] at this
    exact hx (List.length_eq_zero_iff.1 this.symm)
  obtain ⟨g, cap, rfl, hg, hgw, _, _, _, hH⟩ := Lib.holds_of_ownsRow (enc := Value.int .i64) h hv
  refine (slices_Sort_int g 0 cap xs w hH hgw (by omega)).mono ?_
  rintro e w' ⟨rfl, n, os, rfl⟩
  have hl : (xs.mergeSort fun x y => decide (x ≤ y)).length = xs.length := List.length_mergeSort _
  have r := Lib.ownsRow_putRow (q := n) (k := xs.length) h hl (Nat.le_refl _)
  rw [List.take_of_length_le (by omega)] at r
  have b : Below L w (Sort.putRow (Value.int .i64) (Sort.ahead w n) g 0 (xs.mergeSort fun x y => decide (x ≤ y)).toArray) := Lib.below_putRow (Below.refl _ _) hg
  have G : Gr (Sort.putRow (Value.int .i64) (Sort.ahead w n) g 0 (xs.mergeSort fun x y => decide (x ≤ y)).toArray) L (.slice (some ⟨g, 0, none⟩) xs.length cap) (xs.mergeSort fun x y => decide (x ≤ y)) := by
    unfold Gr
    rw [hl]
    exact r
  refine ⟨rfl, G.own (below_grow (Below.refl _ _) (Nat.le_refl _)), below_grow b ?_⟩
  exact Nat.le_trans hL b.size
theorem compact_gr (v : Value) (xs : List Int) (L : Nat) (w : World) (h : Gr w L v xs) (hx : xs ≠ []) (hn : xs.length ≤ 9000000000) :
    Calls Try.prog 57 #[v] w fun e w' => ∃ v', e = .returned v' ∧ Gr w' L v' (Lib.compact xs) ∧ Below L w w' := by
  have hv : v ≠ .slice none 0 0 := by
    rintro rfl
    have := h.len
    simp only [lenOf] at this
    exact hx (List.length_eq_zero_iff.1 this.symm)
  obtain ⟨g, cap, rfl, hg, hgw, hcap, _, _, hH⟩ := Lib.holds_of_ownsRow (enc := Value.int .i64) h hv
  refine (slices_Compact_int g 0 cap xs w hH (by omega) hcap).mono ?_
  rintro e w' ⟨rfl, q, rfl⟩
  have hc := Lib.compact_length_le xs
  have r := Lib.ownsRow_putRow (q := q) (k := (Lib.compact xs).length) (ys := Lib.compact xs ++ List.replicate (xs.length - (Lib.compact xs).length) 0) h (by simp; omega) hc
  rw [List.take_left] at r
  exact ⟨_, rfl, r, Lib.below_putRow (Below.refl _ _) hg⟩
end Go.Proofs.Ytfpgdbdgglbleaa
