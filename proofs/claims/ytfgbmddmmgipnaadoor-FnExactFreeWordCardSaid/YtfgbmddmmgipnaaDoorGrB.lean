/- Slices of bytes that a call makes by append. -/
import Derived.Test.YtfgbmddmmgipnaaDoorGr
namespace Go.Proofs.YtfgbmddmmgipnaaDoor
open Go.ChangeShapes Go.WideShapes Go.ChangeAt Go.RowKit

theorem info_u8 : (Tryd.prog.info? 5).map (fun i => (i.zero, i.size, i.bytes)) = some (some (.int .u8 0), 1, 1) := by kernel_rfl

/-- The slice v owns a row of blocks from L on, and reads as xs. -/
def GrB (w : World) (L : Nat) (v : Value) (xs : List Int) : Prop := w.ownsRow L 5 1 v xs.length (xs.map fun x => Value.int .u8 x)
theorem GrB.nil (w : World) (L : Nat) : GrB w L (.slice none 0 0) [] := World.ownsRow_nil _ _ _ _
theorem GrB.own {w w' : World} {L : Nat} {v : Value} {xs : List Int} (h : GrB w L v xs) (hb : Below w.heap.size w w') : GrB w' L v xs := by
  refine World.ownsRow.kept (row := none) h ⟨hb.os, hb.tape, hb.output, hb.size, fun k hk _ => hb.block k hk⟩ ?_
  rcases e : v.ownBlock with _ | k
  · exact .inl rfl
  · exact .inr (by simp)
theorem GrB.len {w : World} {L : Nat} {v : Value} {xs : List Int} (h : GrB w L v xs) : lenOf v = xs.length := by
  obtain ⟨hl, ⟨rfl, h0⟩ | ⟨g, cap, cur, rfl, _⟩⟩ := h
  · exact h0.symm
  · rfl
theorem GrB.shape {w : World} {L : Nat} {v : Value} {xs : List Int} (h : GrB w L v xs) : ∃ ad cap, v = .slice ad xs.length cap := by
  obtain ⟨hl, ⟨rfl, h0⟩ | ⟨g, cap, cur, rfl, _⟩⟩ := h
  · exact ⟨none, 0, by rw [h0]⟩
  · exact ⟨_, cap, rfl⟩
theorem GrB.alloc {w : World} {L : Nat} {v : Value} {xs : List Int} (h : GrB w L v xs) (o : Obj) : GrB (w.alloc o) L v xs := World.ownsRow.alloc h o
theorem GrB.drew {w : World} {L : Nat} {v : Value} {xs : List Int} (h : GrB w L v xs) : GrB w.drew L v xs := h
theorem GrB.set {w : World} {L : Nat} {v : Value} {xs : List Int} (h : GrB w L v xs) {p : Addr} (hp : p.block < L) (u : Value) : GrB (w.setCell p u) L v xs := ownsRow_setCell_below h hp u
/-- 'xs = append(xs, y)': the list grows by y; nothing below L turns. -/
theorem app8 {ops : Array Oper} {rest : List Oper} {o : Oper} {a : Act} {Q : Exit → Act → World → Prop} (hgd : o.guard = none) (s x : Operand)
    (ho : o.op = .call { callee := .builtin .append, args := #[s, x], argTypes := #[63, 63] })
    (L : Nat) (w : World) (v : Value) (xs : List Int) (y : Int) (hs : a.eval s = v) (hown : GrB w L v xs) (g : Nat) (hx : a.eval x = .slice (some ⟨g, 0, none⟩) 1 1)
    (hg : w.heap.size = g) (hlen : xs.length ≤ 9000000000) (hL : L ≤ w.heap.size)
    (h : ∀ v' w', GrB w' L v' (xs ++ [y]) → Below L w w' → (∀ b r, (∀ g, v.ownBlock = some g → g ≠ b) → Box w b r → Box w' b r) → wpList Tryd.prog ops Q rest (a.put o.dst v') w') : wpList Tryd.prog ops Q (o :: rest) a (w.alloc (.cells #[(.int .u8 y)] 5)) := by
  obtain ⟨i0, hi, hz0, hz1, hz2⟩ := info_parts info_u8
  subst hg
  refine wpList_append_own _ hgd s x 63 ho L 5 i0 (.int .u8 0) 1 1 Tryd.underlying63 hi hz0 hz1 hz2 rfl (by decide) v xs.length _ hs (GrB.alloc hown _) ⟨w.heap.size, 0, none⟩ 1 1 [(.int .u8 y)] hx rfl ?_ ?_ ?_ ?_ ?_ ?_
  · intro j u hj
    match j, hj with
    | 0, hj => simp at hj; subst hj; simp [Addr.add]
  · intro u hu; simp at hu; subst hu; rfl
  · unfold maxLen; omega
  · omega
  · simp; omega
  · intro v' w' hown' hgrow _
    refine h v' w' ?_ ?_ ?_
    · have e : (xs ++ [y]).length = xs.length + 1 := by simp
      unfold GrB
      rw [e, List.map_append]
      exact hown'
    · have hb : Below L w (w.alloc (.cells #[(.int .u8 y)] 5)) := (Below.refl L w).alloc hL _
      exact hb.grown hgrow (by simp; omega) (fun j hj => (hown.lt j hj).1)
    · intro b r hne hB
      have hA := hB.alloc (.cells #[(.int .u8 y)] 5)
      have hk := hgrow.block b hA.1 (fun e => hne b e.symm rfl)
      refine ⟨Nat.lt_of_lt_of_le hA.1 hgrow.size, fun i u hu => ⟨?_, ?_⟩⟩
      · exact (World.cell?_of_block (a := ⟨b, i, none⟩) hk).trans (hA.2 i u hu).1
      · exact (World.frozen?_of_block (a := ⟨b, i, none⟩) hk).trans (hA.2 i u hu).2
end Go.Proofs.YtfgbmddmmgipnaaDoor
