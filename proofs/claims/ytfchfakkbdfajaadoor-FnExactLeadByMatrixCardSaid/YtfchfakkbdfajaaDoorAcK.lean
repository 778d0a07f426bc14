/- Kept points: both sides. -/
import Derived.Test.YtfchfakkbdfajaaDoorAcI
namespace Go.Proofs.YtfchfakkbdfajaaDoor
open Go.ChangeShapes Go.WideShapes Go.ChangeAt Go.RowKit

theorem isA_at (u : Value) (s t : List Int) (hsl : s.length ≤ 9223372036854775807) (w : World) (h : Ac w u s t) (w' : World) (hb : Below w.heap.size w w') :
    Calls Tryd.prog 26 #[u] w' fun e w'' => e = .returned (.bool (isA s t)) ∧ Below w'.heap.size w' w'' := by
  obtain ⟨a, b, rfl, ha, hb'⟩ := h.below hb
  exact implIsA_is a b s t hsl w' ha hb'
theorem l10Is_at (u : Value) (s t : List Int) (hsl : s.length ≤ 9223372036854775807) (w : World) (h : Ac w u s t) (w' : World) (hb : Below w.heap.size w w') :
    Calls Tryd.prog 52 #[u] w' fun e w'' => e = .returned (.bool (isA s t)) ∧ Below w'.heap.size w' w'' := by
  obtain ⟨a, b, rfl, ha, hb'⟩ := h.below hb
  exact l10Is_is a b s t hsl w' ha hb'
theorem Ac.shape {w : World} {u : Value} {s t : List Int} (h : Ac w u s t) : ∃ ad c ad' c', u = .agg #[.slice ad s.length c, .slice ad' t.length c'] := by
  obtain ⟨a, b, rfl, ⟨_, _, rfl, _⟩, ⟨_, _, rfl, _⟩⟩ := h
  exact ⟨_, _, _, _, rfl⟩
def cntP (p : Nat → Bool) : Nat → Nat
  | 0 => 0
  | k + 1 => if p k then cntP p k + 1 else cntP p k
theorem cntP_le (p : Nat → Bool) : ∀ k, cntP p k ≤ k
  | 0 => Nat.le_refl _
  | k + 1 => by
    have := cntP_le p k
    rw [cntP]
    split <;> omega
def kp2 (s : List Int) (i : Nat) : Bool := decide (pt s i = i)
def kp3 (s t : List Int) (i : Nat) : Bool := decide (pt s (pt t i) = i)
theorem ltrS1 : ∀ k (h : k < (⟨#[83]⟩ : ByteArray).size), Ltr (⟨#[83]⟩ : ByteArray)[k] := by
  intro k h
  have : k < 1 := h
  obtain rfl : k = 0 := by omega
  exact .inl rfl
theorem ltrTS1 : ∀ k (h : k < (⟨#[84, 83]⟩ : ByteArray).size), Ltr (⟨#[84, 83]⟩ : ByteArray)[k] := by
  intro k h
  have : k < 2 := h
  rcases (show k = 0 ∨ k = 1 by omega) with rfl | rfl
  · exact .inr (.inl rfl)
  · exact .inl rfl
end Go.Proofs.YtfchfakkbdfajaaDoor
