/- The source of draws: what it is in memory, and what a draw leaves of it. -/
import Derived.Test.YthggpcdbnopabaaA
import Derived.Maps.AppendAt
namespace Go.Proofs.Ythggpcdbnopabaa
open Go.ChangeShapes Go.WideShapes Go.ChangeAt Go.RowKit

/-- Only block g may have turned, and new ones may have come. -/
def DR (g : Nat) (w w' : World) : Prop := w.grownBy w' (some g)
theorem DR.refl (g : Nat) (w : World) : DR g w w := ⟨rfl, rfl, rfl, Nat.le_refl _, fun _ _ _ => rfl⟩
theorem DR.trans {g : Nat} {a b c : World} (h : DR g a b) (k : DR g b c) : DR g a c := World.grownBy.trans h k
theorem DR.below {g : Nat} {w w' : World} (h : Below w.heap.size w w') : DR g w w' := ⟨h.os, h.tape, h.output, h.size, fun k hk _ => h.block k hk⟩
theorem DR.drewN {g : Nat} {a w : World} (h : DR g a w) (n : Nat) : DR g a (w.drewN n) := ⟨h.1, h.2, h.3, h.4, h.5⟩
theorem DR.drew {g : Nat} {a w : World} (h : DR g a w) : DR g a w.drew := ⟨h.1, h.2, h.3, h.4, h.5⟩
theorem DR.size {g : Nat} {w w' : World} (h : DR g w w') : w.heap.size ≤ w'.heap.size := h.4
theorem DR.set {g : Nat} {a w : World} (h : DR g a w) (o : Nat) (u : Value) : DR g a (w.setCell ⟨g, o, none⟩ u) :=
  h.trans ⟨rfl, rfl, rfl, by simp [World.setCell], fun k _ hk => Below.heap_setCell w ⟨g, o, none⟩ u k (by dsimp only; intro e; exact hk (by rw [e]))⟩
theorem DR.box {g b : Nat} {w w' : World} {xs : List Value} (h : DR g w w') (hb : b ≠ g) (B : Box w b xs) : Box w' b xs := by
  have hk : w'.heap[b]? = w.heap[b]? := h.5 b B.1 (by intro e; exact hb (by injection e))
  refine ⟨Nat.lt_of_lt_of_le B.1 h.size, fun i v hv => ⟨?_, ?_⟩⟩
  · exact (World.cell?_of_block (w := w) (a := ⟨b, i, none⟩) hk).trans (B.2 i v hv).1
  · exact (World.frozen?_of_block (w := w) (a := ⟨b, i, none⟩) hk).trans (B.2 i v hv).2
theorem DR.cell {g b o : Nat} {w w' : World} (h : DR g w w') (hb : b ≠ g) (hl : b < w.heap.size) : w'.cell? ⟨b, o, none⟩ = w.cell? ⟨b, o, none⟩ :=
  World.cell?_of_block (w := w) (a := ⟨b, o, none⟩) (h.5 b hl (by intro e; exact hb (by injection e)))
theorem DR.belowL {g L : Nat} {a w w' : World} (T : Below L a w) (h : DR g w w') (hL : L ≤ w.heap.size) (hg : L ≤ g) : Below L a w' :=
  T.grown h hL (fun k e => by injection e with e; omega)

/-- A code: a slice of bytes, in a block ahead of block g. -/
def CodeR (w : World) (g : Nat) (cd : Value) : Prop := ∃ (ad : Option Addr) (n cap : Nat), cd = .slice ad n cap ∧ n ≤ 4294967296 ∧
  (0 < n → ∃ b off, ad = some ⟨b, off, none⟩ ∧ b < w.heap.size ∧ b < g ∧ ∀ k, k < n → ∃ x : Int, 0 ≤ x ∧ x ≤ 255 ∧ w.cell? ⟨b, off + k, none⟩ = some (.int .u8 x))
theorem CodeR.dr {g : Nat} {w w' : World} {cd : Value} (h : CodeR w g cd) (k : DR g w w') : CodeR w' g cd := by
  obtain ⟨ad, n, cap, rfl, hn, hc⟩ := h
  refine ⟨ad, n, cap, rfl, hn, fun h0 => ?_⟩
  obtain ⟨b, off, rfl, hb, hg, hx⟩ := hc h0
  refine ⟨b, off, rfl, Nat.lt_of_lt_of_le hb k.size, hg, fun i hi => ?_⟩
  obtain ⟨x, h1, h2, h3⟩ := hx i hi
  exact ⟨x, h1, h2, (k.cell (Nat.ne_of_lt hg) hb).trans h3⟩
/-- Block g is a source. -/
def Src (w : World) (g : Nat) : Prop := ∃ (cd : Value) (at_ : Nat) (h : Int), at_ ≤ 4294967296 ∧ 0 ≤ h ∧ h ≤ 18446744073709551615 ∧ Box w g [cd, .int .i64 (at_ : Int), .int .u64 h] ∧ CodeR w g cd
theorem Src.below {w w' : World} {g : Nat} (h : Src w g) (hb : Below w.heap.size w w') : Src w' g := by
  obtain ⟨cd, a, x, h1, h2, h3, h4, h5⟩ := h
  exact ⟨cd, a, x, h1, h2, h3, h4.below hb, h5.dr (DR.below hb)⟩
theorem Src.far {w : World} {g b o : Nat} {u : Value} (h : Src w g) (hb : g < b) : Src (w.setCell ⟨b, o, none⟩ u) g := by
  obtain ⟨cd, a, x, h1, h2, h3, h4, ad, n, cap, rfl, hn, hc⟩ := h
  refine ⟨_, a, x, h1, h2, h3, h4.far (by dsimp only; omega) _, ad, n, cap, rfl, hn, fun h0 => ?_⟩
  obtain ⟨b', off, rfl, hb', hg, hx⟩ := hc h0
  refine ⟨b', off, rfl, by simpa [World.setCell] using hb', hg, fun i hi => ?_⟩
  obtain ⟨y, y1, y2, y3⟩ := hx i hi
  refine ⟨y, y1, y2, ?_⟩
  rw [World.cell?_setCell_other _ _ _ _ (by intro e; injection e with e1 e2; omega)]
  exact y3
theorem DR.setNew {g : Nat} {a w : World} (h : DR g a w) {p : Addr} (hp : a.heap.size ≤ p.block) (u : Value) : DR g a (w.setCell p u) :=
  ⟨h.1, h.2, h.3, by have := h.4; simpa [World.setCell] using this, fun k hk hn => (Below.heap_setCell w p u k (by omega)).trans (h.5 k hk hn)⟩
theorem Src.alloc {w : World} {g : Nat} (h : Src w g) (o : Obj) : Src (w.alloc o) g := h.below (own_alloc (own_refl w) o)
theorem Box.three' {w : World} {g : Nat} {x0 x1 x2 : Value} (h : Box w g [x0, x1, x2]) :
    g < w.heap.size ∧ w.cell? ⟨g, 0, none⟩ = some x0 ∧ w.cell? ⟨g, 1, none⟩ = some x1 ∧ w.cell? ⟨g, 2, none⟩ = some x2 ∧
      w.frozen? ⟨g, 0, none⟩ = false ∧ w.frozen? ⟨g, 1, none⟩ = false ∧ w.frozen? ⟨g, 2, none⟩ = false :=
  ⟨h.1, (h.2 0 _ rfl).1, (h.2 1 _ rfl).1, (h.2 2 _ rfl).1, (h.2 0 _ rfl).2, (h.2 1 _ rfl).2, (h.2 2 _ rfl).2⟩

/-- What a draw of a number below n leaves. -/
def Num (n : Int) (g : Nat) (w : World) (e : Ending) (w' : World) : Prop := ∃ x : Int, e = .returned (.int .i64 x) ∧ 0 ≤ x ∧ (x < n ∨ x = 0) ∧ DR g w w' ∧ Src w' g

set_option maxHeartbeats 2000000 in
theorem l01Next_any (n : Int) (g : Nat) (w : World) (h : Src w g) : Calls Try.prog 49 #[.pointer (some ⟨g, 0, none⟩), (.int .i64 n)] w (Num n g w) := by
  obtain ⟨cd, at_, hs, ha, h0, h1, hB, hC⟩ := h
  by_cases hn : n < 1
  · go_enter Try.func49, Try.ntmps49
    go_wp2
    go_ret
    exact ⟨0, rfl, by omega, .inr rfl, DR.refl _ _, cd, at_, hs, ha, h0, h1, hB, hC⟩
  · obtain ⟨_, _, _, _, _, _, _⟩ := hB.three'
    have HB := Lib.hid hB
    have HC := Lib.hid hC
    obtain ⟨h', hh⟩ : ∃ h' : Int, IntKind.u64.wrap (IntKind.u64.wrap (hs * 6364136223846793005) + 1442695040888963407) = h' := ⟨_, rfl⟩
    have hb : 0 ≤ h' ∧ h' ≤ 18446744073709551615 := by
      rw [← hh]
      have := Go.wrap_within .u64 (IntKind.u64.wrap (hs * 6364136223846793005) + 1442695040888963407)
      simpa [IntKind.min, IntKind.max, IntKind.signed, IntKind.bits] using this
    obtain ⟨x0, hx0⟩ : ∃ x0 : Int, bits .and .u64 (h' / 8589934592) 16777215 = x0 := ⟨_, rfl⟩
    have hxb : 0 ≤ x0 ∧ x0 ≤ 16777215 := by
      have h := bits_mask .u64 63 (by decide) (fun n h0 h1 => by rw [IntKind.wrap_u64]; omega) 24 (by decide) (h' / 8589934592) (by omega) (by omega)
      have e : ((2 : Int) ^ 24 - 1) = 16777215 := by decide
      have e2 : ((2 : Int) ^ 24) = 16777216 := by decide
      rw [e, e2, hx0] at h
      omega
    have B1 : Box (w.setCell ⟨g, 2, none⟩ (.int .u64 h')) g [cd, .int .i64 (at_ : Int), .int .u64 h'] := by simpa using hB.set 2 (by simp) (.int .u64 h')
    have D1 : DR g w (w.setCell ⟨g, 2, none⟩ (.int .u64 h')) := (DR.refl g w).set 2 _
    have C1 : CodeR (w.setCell ⟨g, 2, none⟩ (.int .u64 h')) g cd := hC.dr D1
    obtain ⟨ad, cn, cp, rfl, hcn, hcs⟩ := C1
    have HCS := Lib.hid hcs
    have HCO := Lib.hid hC
    clear hcs hC HC HB
    go_enter Try.func49, Try.ntmps49
    go_upto_region 5 with fail
    generalize w.setCell ⟨g, 2, none⟩ (.int .u64 h') = w1 at B1 D1 HCS ⊢
    obtain ⟨_, _, _, _, _, _, _⟩ := B1.three'
    by_cases hlt : (at_ : Int) < (cn : Int)
    · go_region_held3 (fun w' => w'.cell? ⟨g, 0, none⟩ = some (.slice ad cn cp) ∧ w'.cell? ⟨g, 1, none⟩ = some (.int .i64 (at_ : Int))) (go_keep) (fail)
      all_goals
        have hltN : at_ < cn := by omega
        obtain ⟨b, off, rfl, hbl, hbg, hbs⟩ := HCS.out (by omega)
        obtain ⟨x, x1, x2, cx⟩ := hbs at_ hltN
        clear hbs
        have B1 := Box.drew B1
        have D1 := D1.drew
        have cx : w1.drew.cell? ⟨b, off + at_, none⟩ = some (.int .u8 x) := cx
        go_upto_region 6 with fail
        generalize w1.drew = w2 at B1 D1 cx ⊢
        obtain ⟨_, _, _, _, _, _, _⟩ := B1.three'
        go_region_held3 (fun w' => w'.cell? ⟨g, 0, none⟩ = some (.slice (some ⟨b, off, none⟩) cn cp) ∧ w'.cell? ⟨g, 1, none⟩ = some (.int .i64 (at_ : Int)) ∧ w'.cell? ⟨b, off + at_, none⟩ = some (.int .u8 x)) (go_keep) (fail)
        all_goals
          have B1 := Box.drew B1
          have D1 := D1.drew
          generalize w2.drew = w3 at B1 D1 ⊢
          obtain ⟨_, _, _, _, _, _, _⟩ := B1.three'
          go_wp2
          go_ret
          have D2 := D1.set 1 (.int .i64 ((at_ : Int) + 1))
          exact ⟨_, rfl, Int.emod_nonneg _ (by omega), .inl (Int.emod_lt_of_pos _ (by omega)), D2, _, at_ + 1, h', by omega, hb.1, hb.2, by simpa using B1.set 1 (by simp) (.int .i64 ((at_ : Int) + 1)), HCO.out.dr D2⟩
    · go_region_held3 (fun w' => w'.cell? ⟨g, 0, none⟩ = some (.slice ad cn cp) ∧ w'.cell? ⟨g, 1, none⟩ = some (.int .i64 (at_ : Int))) (go_keep) (fail)
      all_goals
        have B1 := Box.drew B1
        have D1 := D1.drew
        generalize w1.drew = w2 at B1 D1 ⊢
        go_wp2
        go_ret
        exact ⟨_, rfl, Int.emod_nonneg _ (by omega), .inl (Int.emod_lt_of_pos _ (by omega)), D1, _, at_, h', ha, hb.1, hb.2, B1, HCO.out.dr D1⟩
end Go.Proofs.Ythggpcdbnopabaa
