/- The source of draws: what it is in memory, and what a draw leaves of it. -/
import Derived.Test.YtajfjfgpiggekaaA
import Derived.Maps.AppendAt
namespace Go.Proofs.Ytajfjfgpiggekaa
open Go.ChangeShapes Go.WideShapes Go.ChangeAt Go.RowKit

/-- Only block g may have turned, and new ones may have come. -/
def DR (g : Nat) (w w' : World) : Prop := w.grownBy w' (some g)
theorem DR.refl (g : Nat) (w : World) : DR g w w := ⟨rfl, rfl, rfl, Nat.le_refl _, fun _ _ _ => rfl⟩
theorem DR.trans {g : Nat} {a b c : World} (h : DR g a b) (k : DR g b c) : DR g a c := World.grownBy.trans h k
theorem DR.below {g : Nat} {w w' : World} (h : Below w.heap.size w w') : DR g w w' := ⟨h.os, h.tape, h.output, h.size, fun k hk _ => h.block k hk⟩
theorem DR.drewN {g : Nat} {a w : World} (h : DR g a w) (n : Nat) : DR g a (w.drewN n) := ⟨h.1, h.2, h.3, h.4, h.5⟩
theorem DR.drew {g : Nat} {a w : World} (h : DR g a w) : DR g a w.drew := ⟨h.1, h.2, h.3, h.4, h.5⟩
theorem DR.size {g : Nat} {w w' : World} (h : DR g w w') : w.heap.size ≤ w'.heap.size := h.4
theorem DR.set {g : Nat} {a w : World} (h : DR g a w) (o : Nat) (u : Value) : DR g a (w.setCell ⟨g, o, none⟩ u) :=
  h.trans ⟨rfl, rfl, rfl, by simp [World.setCell], fun k _ hk => Below.heap_setCell w ⟨g, o, none⟩ u k (by dsimp only; intro e; exact hk (by rw [e]))⟩
theorem DR.box {g b : Nat} {w w' : World} {xs : List Value} (h : DR g w w') (hb : b ≠ g) (B : Box w b xs) : Box w' b xs := by
  have hk : w'.heap[b]? = w.heap[b]? := h.5 b B.1 (by intro e; exact hb (by injection e))
  refine ⟨Nat.lt_of_lt_of_le B.1 h.size, fun i v hv => ⟨?_, ?_⟩⟩
  · exact (World.cell?_of_block (w := w) (a := ⟨b, i, none⟩) hk).trans (B.2 i v hv).1
  · exact (World.frozen?_of_block (w := w) (a := ⟨b, i, none⟩) hk).trans (B.2 i v hv).2
theorem DR.cell {g b o : Nat} {w w' : World} (h : DR g w w') (hb : b ≠ g) (hl : b < w.heap.size) : w'.cell? ⟨b, o, none⟩ = w.cell? ⟨b, o, none⟩ :=
  World.cell?_of_block (w := w) (a := ⟨b, o, none⟩) (h.5 b hl (by intro e; exact hb (by injection e)))
theorem DR.belowL {g L : Nat} {a w w' : World} (T : Below L a w) (h : DR g w w') (hL : L ≤ w.heap.size) (hg : L ≤ g) : Below L a w' :=
  T.grown h hL (fun k e => by injection e with e; omega)

/-- A code: a slice of bytes, in a block ahead of block g. -/
def CodeR (w : World) (g : Nat) (cd : Value) : Prop := ∃ (ad : Option Addr) (n cap : Nat), cd = .slice ad n cap ∧ n ≤ 4294967296 ∧
  (0 < n → ∃ b off, ad = some ⟨b, off, none⟩ ∧ b < w.heap.size ∧ b < g ∧ ∀ k, k < n → ∃ x : Int, 0 ≤ x ∧ x ≤ 255 ∧ w.cell? ⟨b, off + k, none⟩ = some (.int .u8 x))
theorem CodeR.dr {g : Nat} {w w' : World} {cd : Value} (h : CodeR w g cd) (k : DR g w w') : CodeR w' g cd := by
  obtain ⟨ad, n, cap, rfl, hn, hc⟩ := h
  refine ⟨ad, n, cap, rfl, hn, fun h0 => ?_⟩
  obtain ⟨b, off, rfl, hb, hg, hx⟩ := hc h0
  refine ⟨b, off, rfl, Nat.lt_of_lt_of_le hb k.size, hg, fun i hi => ?_⟩
  obtain ⟨x, h1, h2, h3⟩ := hx i hi
  exact ⟨x, h1, h2, (k.cell (Nat.ne_of_lt hg) hb).trans h3⟩
/-- Block g is a source. -/
def Src (w : World) (g : Nat) : Prop := ∃ (cd : Value) (at_ : Nat) (h : Int), at_ ≤ 4294967296 ∧ 0 ≤ h ∧ h ≤ 18446744073709551615 ∧ Box w g [cd, .int .i64 (at_ : Int), .int .u64 h] ∧ CodeR w g cd
theorem Src.below {w w' : World} {g : Nat} (h : Src w g) (hb : Below w.heap.size w w') : Src w' g := by
  obtain ⟨cd, a, x, h1, h2, h3, h4, h5⟩ := h
  exact ⟨cd, a, x, h1, h2, h3, h4.below hb, h5.dr (DR.below hb)⟩
theorem Src.far {w : World} {g b o : Nat} {u : Value} (h : Src w g) (hb : g < b) : Src (w.setCell ⟨b, o, none⟩ u) g := by
  obtain ⟨cd, a, x, h1, h2, h3, h4, ad, n, cap, rfl, hn, hc⟩ := h
  refine ⟨_, a, x, h1, h2, h3, h4.far (by dsimp only; omega) _, ad, n, cap, rfl, hn, fun h0 => ?_⟩
  obtain ⟨b', off, rfl, hb', hg, hx⟩ := hc h0
  refine ⟨b', off, rfl, by simpa [World.setCell] using hb', hg, fun i hi => ?_⟩
  obtain ⟨y, y1, y2, y3⟩ := hx i hi
  refine ⟨y, y1, y2, ?_⟩
  rw [World.cell?_setCell_other _ _ _ _ (by intro e; injection e with e1 e2; omega)]
  exact y3
theorem DR.setNew {g : Nat} {a w : World} (h : DR g a w) {p : Addr} (hp : a.heap.size ≤ p.block) (u : Value) : DR g a (w.setCell p u) :=
  ⟨h.1, h.2, h.3, by have := h.4; simpa [World.setCell] using this, fun k hk hn => (Below.heap_setCell w p u k (by omega)).trans (h.5 k hk hn)⟩
theorem Src.alloc {w : World} {g : Nat} (h : Src w g) (o : Obj) : Src (w.alloc o) g := h.below (own_alloc (own_refl w) o)
theorem Box.three' {w : World} {g : Nat} {x0 x1 x2 : Value} (h : Box w g [x0, x1, x2]) :
    g < w.heap.size ∧ w.cell? ⟨g, 0, none⟩ = some x0 ∧ w.cell? ⟨g, 1, none⟩ = some x1 ∧ w.cell? ⟨g, 2, none⟩ = some x2 ∧
      w.frozen? ⟨g, 0, none⟩ = false ∧ w.frozen? ⟨g, 1, none⟩ = false ∧ w.frozen? ⟨g, 2, none⟩ = false :=
  ⟨h.1, (h.2 0 _ rfl).1, (h.2 1 _ rfl).1, (h.2 2 _ rfl).1, (h.2 0 _ rfl).2, (h.2 1 _ rfl).2, (h.2 2 _ rfl).2⟩

/-- What a draw of a number below n leaves. -/
def Num (n : Int) (g : Nat) (w : World) (e : Ending) (w' : World) : Prop := ∃ x : Int, e = .returned (.int .i64 x) ∧ 0 ≤ x ∧ (x < n ∨ x = 0) ∧ DR g w w' ∧ Src w' g

end Go.Proofs.Ytajfjfgpiggekaa
