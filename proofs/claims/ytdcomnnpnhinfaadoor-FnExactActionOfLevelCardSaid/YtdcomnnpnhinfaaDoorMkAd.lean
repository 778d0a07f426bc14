/- The laws' marks over actions, over few texts (XMkAc is the same over more: never import both). -/
import Derived.Test.YtdcomnnpnhinfaaDoorAcA
import Derived.Test.YtdcomnnpnhinfaaDoorMS


namespace Go.Proofs.YtdcomnnpnhinfaaDoor
open Go.ChangeShapes Go.WideShapes Go.ChangeAt Go.RowKit

theorem Box.grown {w w' : World} {g : Nat} {xs : List Value} {row : Option Nat} (h : Box w g xs) (hg : w.grownBy w' row) (hr : row ≠ some g) : Box w' g xs := by
  have hb := hg.5 g h.1 (fun e => hr e.symm)
  refine ⟨Nat.lt_of_lt_of_le h.1 hg.4, fun i v hv => ⟨?_, ?_⟩⟩
  · exact (World.cell?_of_block (w := w) (a := ⟨g, i, none⟩) hb).trans (h.2 i v hv).1
  · exact (World.frozen?_of_block (w := w) (a := ⟨g, i, none⟩) hb).trans (h.2 i v hv).2
theorem Gr.grown' {w w' : World} {L : Nat} {v : Value} {xs : List Int} {row : Option Nat} (h : Gr w L v xs) (hg : w.grownBy w' row) (hr : ∀ b, v.ownBlock = some b → row ≠ some b) : Gr w' L v xs := by
  refine World.ownsRow.kept h hg ?_
  rcases e : v.ownBlock with _ | k
  · exact .inl rfl
  · exact .inr fun he => hr k e he.symm
/-- the blocks of an action's lists -/
def ownA (u : Value) (b : Nat) : Prop := ∃ x y, u = .agg #[x, y] ∧ (x.ownBlock = some b ∨ y.ownBlock = some b)
/-- only the lists' blocks of u have turned -/
def OnlyA (u : Value) (w w' : World) : Prop := ∃ x y w1, u = .agg #[x, y] ∧ w.grownBy w1 x.ownBlock ∧ w1.grownBy w' y.ownBlock
theorem OnlyA.box {u : Value} {w w' : World} (h : OnlyA u w w') {g : Nat} {xs : List Value} (B : Box w g xs) (hn : ¬ ownA u g) : Box w' g xs := by
  obtain ⟨x, y, w1, e, h1, h2⟩ := h
  exact (B.grown h1 (fun hx => hn ⟨x, y, e, .inl hx⟩)).grown h2 (fun hy => hn ⟨x, y, e, .inr hy⟩)
theorem OnlyA.gr {u : Value} {w w' : World} (h : OnlyA u w w') {L : Nat} {v : Value} {xs : List Int} (G : Gr w L v xs) (hn : ∀ b, v.ownBlock = some b → ¬ ownA u b) : Gr w' L v xs := by
  obtain ⟨x, y, w1, e, h1, h2⟩ := h
  exact (G.grown' h1 (fun b hb hx => hn b hb ⟨x, y, e, .inl hx⟩)).grown' h2 (fun b hb hy => hn b hb ⟨x, y, e, .inr hy⟩)
theorem OnlyA.acr {u : Value} {w w' : World} (h : OnlyA u w w') {L : Nat} {v : Value} {s t : List Int} (G : AcR w L v s t) (hn : ∀ b, ownA v b → ¬ ownA u b) : AcR w' L v s t := by
  obtain ⟨a, b, rfl, h1, h2, h3⟩ := G
  exact ⟨a, b, rfl, h.gr h1 (fun k hk => hn k ⟨a, b, rfl, .inl hk⟩), h.gr h2 (fun k hk => hn k ⟨a, b, rfl, .inr hk⟩), h3⟩
theorem AcR.ownL {w : World} {L : Nat} {u : Value} {s t : List Int} (h : AcR w L u s t) {b : Nat} (hb : ownA u b) : L ≤ b ∧ b < w.heap.size := by
  obtain ⟨x, y, rfl, h1, h2, _⟩ := h
  obtain ⟨x', y', e, h3⟩ := hb
  injection e with e
  have ex : x = x' := by have := congrArg (fun z => z[0]?) e; simpa using this
  have ey : y = y' := by have := congrArg (fun z => z[1]?) e; simpa using this
  subst ex ey
  rcases h3 with h3 | h3
  · exact h1.lt b h3
  · exact h2.lt b h3
set_option maxHeartbeats 2000000 in
theorem markA_any (u : Value) (s t : List Int) (L : Nat) (w : World) (hs : s.length ≤ 1048576) (ht : t.length ≤ 1048576) (hu : AcR w L u s t) :
    Calls Tryd.prog 11 #[u, (.int .i64 1)] w fun e w' => e = .returned (.int .i64 (1 + s.length + t.length)) ∧ AcR w' L u (ramp 1 s.length) (ramp (1 + s.length) t.length) ∧ OnlyA u w w' := by
  obtain ⟨a, b, rfl, ha, hb, hap⟩ := hu
  have HA := Lib.hid (fun w' (h : Gr w' L a s) => markG_any a s 1 L w' (by omega) (by omega) (by omega) h)
  have HB := Lib.hid (fun w' (h : Gr w' L b t) => markG_any b t (1 + s.length) L w' (by omega) (by omega) (by omega) h)
  have a0 := ha.alloc (.cells #[a, b] 24)
  have b0 := hb.alloc (.cells #[a, b] 24)
  have BX : Box (w.alloc (.cells #[a, b] 24)) w.heap.size [a, b] := Box.new _ _ _
  have hnb : ∀ k, b.ownBlock = some k → k < w.heap.size := fun k hk => (hb.lt k hk).2
  have hna : ∀ k, a.ownBlock = some k → k < w.heap.size := fun k hk => (ha.lt k hk).2
  have G0 : ∀ row, w.grownBy (w.alloc (.cells #[a, b] 24)) row := fun row => ⟨rfl, rfl, rfl, by simp, fun k hk _ => Below.heap_alloc _ _ _ hk⟩
  obtain ⟨a1, k1, rfl⟩ := ha.shape
  obtain ⟨a2, k2, rfl⟩ := hb.shape
  clear ha hb
  generalize s.length = n at *
  generalize t.length = m at *
  go_enter Tryd.func11, Tryd.ntmps11
  go_wp2_with fail
  generalize w.alloc (.cells #[.slice a1 n k1, .slice a2 m k2] 24) = w0 at *
  refine (HA.out _ a0).mono ?_
  rintro e w2 ⟨rfl, a2', g2⟩
  have b2 := b0.grown' g2 (fun k hk he => hap k he hk)
  have B2 := BX.grown g2 (fun he => by have := hna _ he; omega)
  obtain ⟨-, c0, c1, -, -⟩ := B2.two
  go_wp2_with fail
  refine (HB.out _ b2).mono ?_
  rintro e w3 ⟨rfl, b3, g3⟩
  have a3 := a2'.grown' g3 (fun k hk he => hap k hk he)
  go_wp2
  go_ret
  exact ⟨rfl, ⟨_, _, rfl, a3, b3, hap⟩, ⟨_, _, w2, rfl, (G0 _).trans g2, g3⟩⟩
set_option maxHeartbeats 2000000 in
theorem heldA_ramp (u : Value) (n m : Nat) (L : Nat) (w : World) (hn : n ≤ 1048576) (hm : m ≤ 1048576) (hu : AcR w L u (ramp 1 n) (ramp (1 + n) m)) :
    Calls Tryd.prog 12 #[u, (.int .i64 1)] w fun e w' => e = .returned (.int .i64 (1 + n + m)) ∧ Below w.heap.size w w' := by
  obtain ⟨a, b, rfl, ha, hb, _⟩ := hu
  have HA := Lib.hid (fun w' (h : Below w.heap.size w w') => heldS_ramp a 1 n _ _ w' (by omega) (by omega) (by omega) (ha.own h).sl)
  have HB := Lib.hid (fun w' (h : Below w.heap.size w w') => heldS_ramp b (1 + n) m _ _ w' (by omega) (by omega) (by omega) (hb.own h).sl)
  obtain ⟨a1, k1, rfl⟩ := ha.shape
  obtain ⟨a2, k2, rfl⟩ := hb.shape
  rw [ramp_length, ramp_length] at *
  clear ha hb
  go_enter Tryd.func12, Tryd.ntmps12
  go_wp2_with fail
  refine (HA.out _ (by repeat (first | with_reducible exact own_refl _ | with_reducible assumption | with_reducible apply own_alloc | with_reducible apply own_drewN | with_reducible apply own_drew | ((with_reducible refine own_setCell ?_ ?_ _); rotate_left; focus (first | (simp; done) | (simp; omega))) | (with_reducible (refine own_trans ?_ (by assumption)))))).mono ?_
  rintro e w2 ⟨rfl, rfl⟩
  go_wp2_with fail
  refine (HB.out _ (by repeat (first | with_reducible exact own_refl _ | with_reducible assumption | with_reducible apply own_alloc | with_reducible apply own_drewN | with_reducible apply own_drew | ((with_reducible refine own_setCell ?_ ?_ _); rotate_left; focus (first | (simp; done) | (simp; omega))) | (with_reducible (refine own_trans ?_ (by assumption)))))).mono ?_
  rintro e w2 ⟨rfl, rfl⟩
  go_wp2
  go_ret
  exact ⟨rfl, by repeat (first | with_reducible exact own_refl _ | with_reducible assumption | with_reducible apply own_alloc | with_reducible apply own_drewN | with_reducible apply own_drew | ((with_reducible refine own_setCell ?_ ?_ _); rotate_left; focus (first | (simp; done) | (simp; omega))) | (with_reducible (refine own_trans ?_ (by assumption))))⟩
end Go.Proofs.YtdcomnnpnhinfaaDoor
