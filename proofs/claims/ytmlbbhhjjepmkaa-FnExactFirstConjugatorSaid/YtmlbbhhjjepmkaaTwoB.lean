/- Two boxes that a region lays and fills, in whatever order it draws. -/
import Derived.Test.YtmlbbhhjjepmkaaAnyInv
namespace Go.Proofs.Ytmlbbhhjjepmkaa
open Go.ChangeShapes Go.WideShapes Go.ChangeAt Go.RowKit

theorem keepL {l : Array Bool} {i j : Nat} {p : Prop} (hi : i < l.size) (hne : i ≠ j) (C : l.getD j false = true → p) : (l.setIfInBounds i true).getD j false = true → p := by
  rw [getD_set_any _ _ _ _ hi, if_neg hne]
  exact C
theorem setNe {l : Array Bool} {k i : Nat} (hk : k < l.size) (h : k ≠ i) : (l.setIfInBounds k true).getD i false = l.getD i false := by rw [getD_set_any _ _ _ _ hk, if_neg h]
theorem setEq {l : Array Bool} {k : Nat} (hk : k < l.size) : (l.setIfInBounds k true).getD k false = true := by rw [getD_set_any _ _ _ _ hk, if_pos rfl]
def zero4 : List Value := [.int .i64 0, .int .i64 0, .int .i64 0, .int .i64 0]
/-- One box: laid by operation i, filled with p by operation j. -/
def OneB (B : Nat) (l : Array Bool) (i j : Nat) (p : List Value) (u : Value) (w : World) : Prop :=
  (l.getD j false = true → l.getD i false = true) ∧ (l.getD i false = true → ∃ b : Nat, u = .pointer (some ⟨b, 0, none⟩) ∧ B ≤ b ∧ Box w b (if l.getD j false = true then p else zero4))
theorem OneB.start (B : Nat) (l : Array Bool) (i j : Nat) (p : List Value) (u : Value) (w : World) (hi : l.getD i false = false) (hj : l.getD j false = false) : OneB B l i j p u w := ⟨fun h => (by rw [hj] at h; cases h), fun h => (by rw [hi] at h; cases h)⟩
theorem OneB.keep {B : Nat} {l : Array Bool} {i j k : Nat} {p : List Value} {u : Value} {w w' : World} (h : OneB B l i j p u w) (hk : k < l.size) (h1 : k ≠ i) (h2 : k ≠ j) (hb : Below w.heap.size w w') : OneB B (l.setIfInBounds k true) i j p u w' := by
  unfold OneB
  rw [setNe hk h1, setNe hk h2]
  refine ⟨h.1, fun h0 => ?_⟩
  obtain ⟨b, h3, h4, h5⟩ := h.2 h0
  exact ⟨b, h3, h4, h5.below hb⟩
theorem OneB.lay {B : Nat} {l : Array Bool} {i j : Nat} {p : List Value} {u : Value} {w : World} (h : OneB B l i j p u w) (hB : B ≤ w.heap.size) (hi : i < l.size) (hne : i ≠ j) (hun : l.getD i false = false) (t : TypeId) :
    OneB B (l.setIfInBounds i true) i j p (.pointer (some ⟨w.heap.size, 0, none⟩)) (w.alloc (.cells #[.int .i64 0, .int .i64 0, .int .i64 0, .int .i64 0] t)) := by
  have hj : l.getD j false = false := Bool.eq_false_iff.2 fun e => by rw [h.1 e] at hun; cases hun
  unfold OneB
  rw [setEq hi, setNe hi hne, hj]
  refine ⟨fun h => (by cases h), fun _ => ⟨_, rfl, hB, ?_⟩⟩
  rw [if_neg (by simp)]
  exact Box.new _ _ _
theorem OneB.far {B : Nat} {l : Array Bool} {i j k b : Nat} {p : List Value} {u : Value} {w : World} (h : OneB B l i j p u w) (hk : k < l.size) (h1 : k ≠ i) (h2 : k ≠ j) (hne : l.getD i false = true → u ≠ .pointer (some ⟨b, 0, none⟩)) (y0 y1 y2 y3 : Value) :
    OneB B (l.setIfInBounds k true) i j p u ((((w.setCell ⟨b, 0, none⟩ y0).setCell ⟨b, 1, none⟩ y1).setCell ⟨b, 2, none⟩ y2).setCell ⟨b, 3, none⟩ y3) := by
  unfold OneB
  rw [setNe hk h1, setNe hk h2]
  refine ⟨h.1, fun h0 => ?_⟩
  obtain ⟨b', h3, h4, h5⟩ := h.2 h0
  have hbb : b' ≠ b := fun e => hne h0 (by rw [h3, e])
  exact ⟨b', h3, h4, (((h5.far (p := ⟨b, 0, none⟩) hbb y0).far (p := ⟨b, 1, none⟩) hbb y1).far (p := ⟨b, 2, none⟩) hbb y2).far (p := ⟨b, 3, none⟩) hbb y3⟩
theorem OneB.fill {B : Nat} {l : Array Bool} {i j b : Nat} {y0 y1 y2 y3 : Value} {w : World} (h : OneB B l i j [y0, y1, y2, y3] (.pointer (some ⟨b, 0, none⟩)) w) (hj : j < l.size) (hne : i ≠ j) (h0 : l.getD i false = true) (hun : l.getD j false = false) :
    OneB B (l.setIfInBounds j true) i j [y0, y1, y2, y3] (.pointer (some ⟨b, 0, none⟩)) ((((w.setCell ⟨b, 0, none⟩ y0).setCell ⟨b, 1, none⟩ y1).setCell ⟨b, 2, none⟩ y2).setCell ⟨b, 3, none⟩ y3) := by
  obtain ⟨b', h3, h4, h5⟩ := h.2 h0
  injection h3 with h3
  injection h3 with h3
  injection h3 with h3
  subst h3
  rw [hun, if_neg (by simp)] at h5
  unfold OneB
  rw [setNe hj hne.symm, setEq hj]
  refine ⟨fun _ => h0, fun _ => ⟨b, rfl, h4, ?_⟩⟩
  rw [if_pos rfl]
  exact h5.put4 _ _ _ _
theorem OneB.box {B : Nat} {l : Array Bool} {i j : Nat} {p : List Value} {u : Value} {w : World} (h : OneB B l i j p u w) (h0 : l.getD i false = true) (hj : l.getD j false = true) : ∃ b : Nat, u = .pointer (some ⟨b, 0, none⟩) ∧ B ≤ b ∧ Box w b p := by
  obtain ⟨b, h1, h2, h3⟩ := h.2 h0
  rw [if_pos hj] at h3
  exact ⟨b, h1, h2, h3⟩
theorem OneB.zero {B : Nat} {l : Array Bool} {i j : Nat} {p : List Value} {u : Value} {w : World} (h : OneB B l i j p u w) (h0 : l.getD i false = true) (hj : l.getD j false = false) : ∃ b : Nat, u = .pointer (some ⟨b, 0, none⟩) ∧ B ≤ b ∧ Box w b [.int .i64 0, .int .i64 0, .int .i64 0, .int .i64 0] := by
  obtain ⟨b, h1, h2, h3⟩ := h.2 h0
  rw [hj, if_neg (by simp)] at h3
  exact ⟨b, h1, h2, h3⟩
theorem OneB.new_ne {B : Nat} {l : Array Bool} {i j : Nat} {p : List Value} {u : Value} {w : World} (h : OneB B l i j p u w) (h0 : l.getD i false = true) : u ≠ .pointer (some ⟨w.heap.size, 0, none⟩) := by
  obtain ⟨b, h1, _, h3⟩ := h.2 h0
  rw [h1]
  intro e
  injection e with e
  injection e with e
  injection e with e
  exact absurd h3.1 (by omega)
end Go.Proofs.Ytmlbbhhjjepmkaa
