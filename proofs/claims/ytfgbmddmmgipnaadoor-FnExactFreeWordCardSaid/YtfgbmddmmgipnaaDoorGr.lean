/- Slices of integers that a call makes by append. -/
import Derived.Test.YtfgbmddmmgipnaaDoorSl
namespace Go.Proofs.YtfgbmddmmgipnaaDoor
open Go.ChangeShapes Go.WideShapes Go.ChangeAt Go.RowKit

theorem info_i64 : (Tryd.prog.info? 2).map (fun i => (i.zero, i.size, i.bytes)) = some (some (.int .i64 0), 1, 8) := by kernel_rfl

/-- The slice v owns a row of blocks from L on, and reads as xs. -/
def Gr (w : World) (L : Nat) (v : Value) (xs : List Int) : Prop := w.ownsRow L 2 1 v xs.length (xs.map fun x => (.int .i64 x))
theorem Gr.nil (w : World) (L : Nat) : Gr w L (.slice none 0 0) [] := World.ownsRow_nil _ _ _ _
theorem Gr.own {w w' : World} {L : Nat} {v : Value} {xs : List Int} (h : Gr w L v xs) (hb : Below w.heap.size w w') : Gr w' L v xs := by
  refine World.ownsRow.kept (row := none) h ⟨hb.os, hb.tape, hb.output, hb.size, fun k hk _ => hb.block k hk⟩ ?_
  rcases e : v.ownBlock with _ | k
  · exact .inl rfl
  · exact .inr (by simp)
/-- a slice's length -/
def lenOf : Value → Nat
  | .slice _ n _ => n
  | _ => 0
theorem Gr.len {w : World} {L : Nat} {v : Value} {xs : List Int} (h : Gr w L v xs) : lenOf v = xs.length := by
  obtain ⟨hl, ⟨rfl, h0⟩ | ⟨g, cap, cur, rfl, _⟩⟩ := h
  · exact h0.symm
  · rfl
theorem Gr.shape {w : World} {L : Nat} {v : Value} {xs : List Int} (h : Gr w L v xs) : ∃ ad cap, v = .slice ad xs.length cap := by
  obtain ⟨hl, ⟨rfl, h0⟩ | ⟨g, cap, cur, rfl, _⟩⟩ := h
  · exact ⟨none, 0, by rw [h0]⟩
  · exact ⟨_, cap, rfl⟩
theorem Gr.alloc {w : World} {L : Nat} {v : Value} {xs : List Int} (h : Gr w L v xs) (o : Obj) : Gr (w.alloc o) L v xs := World.ownsRow.alloc h o
theorem Gr.drew {w : World} {L : Nat} {v : Value} {xs : List Int} (h : Gr w L v xs) : Gr w.drew L v xs := h
theorem Gr.set {w : World} {L : Nat} {v : Value} {xs : List Int} (h : Gr w L v xs) {p : Addr} (hp : p.block < L) (u : Value) : Gr (w.setCell p u) L v xs := ownsRow_setCell_below h hp u
theorem Gr.sl {w : World} {L : Nat} {v : Value} {xs : List Int} (h : Gr w L v xs) : Sl w L w.heap.size v xs := by
  refine ⟨Nat.le_refl _, ?_⟩
  obtain ⟨hl, ⟨rfl, h0⟩ | ⟨g, cap, cur, rfl, hg, hh, hn, _, hsz, ht⟩⟩ := h
  · exact ⟨none, 0, by rw [h0], fun hp => by omega⟩
  · refine ⟨_, cap, rfl, fun _ => ⟨g, 0, rfl, hg, (Array.getElem?_eq_some_iff.1 hh).1, fun k hk => ?_⟩⟩
    have hc : cur.toList[k]? = some (.int .i64 (xs.getD k 0)) := by
      have h1 : (cur.toList.take (xs.length * 1))[k]? = (xs.map fun x => (.int .i64 x))[k]? := by rw [ht]
      rw [List.getElem?_take_of_lt (by omega), List.getElem?_map, List.getElem?_eq_getElem hk] at h1
      rw [h1]
      simp [List.getD, List.getElem?_eq_getElem hk]
    have hc' : cur[k]? = some (.int .i64 (xs.getD k 0)) := by rw [← Array.getElem?_toList]; exact hc
    rw [Nat.zero_add]
    constructor
    · simp [World.cell?, hh, hc']
    · simp [World.frozen?, hh]

/-- 'xs = append(xs, y)': the list grows by y; nothing below L turns. -/
theorem app64 {ops : Array Oper} {rest : List Oper} {o : Oper} {a : Act} {Q : Exit → Act → World → Prop} (hgd : o.guard = none) (s x : Operand)
    (ho : o.op = .call { callee := .builtin .append, args := #[s, x], argTypes := #[39, 39] })
    (L : Nat) (w : World) (v : Value) (xs : List Int) (y : Int) (hs : a.eval s = v) (hown : Gr w L v xs) (g : Nat) (hx : a.eval x = .slice (some ⟨g, 0, none⟩) 1 1)
    (hg : w.heap.size = g) (hlen : xs.length ≤ 9000000000) (hL : L ≤ w.heap.size)
    (h : ∀ v' w', Gr w' L v' (xs ++ [y]) → Below L w w' → wpList Tryd.prog ops Q rest (a.put o.dst v') w') : wpList Tryd.prog ops Q (o :: rest) a (w.alloc (.cells #[(.int .i64 y)] 2)) := by
  obtain ⟨i0, hi, hz0, hz1, hz2⟩ := info_parts info_i64
  subst hg
  refine wpList_append_own _ hgd s x 39 ho L 2 i0 (.int .i64 0) 1 8 Tryd.underlying39 hi hz0 hz1 hz2 rfl (by decide) v xs.length _ hs (Gr.alloc hown _) ⟨w.heap.size, 0, none⟩ 1 1 [(.int .i64 y)] hx rfl ?_ ?_ ?_ ?_ ?_ ?_
  · intro j u hj
    match j, hj with
    | 0, hj => simp at hj; subst hj; simp [Addr.add]
  · intro u hu; simp at hu; subst hu; rfl
  · unfold maxLen; omega
  · omega
  · simp; omega
  · intro v' w' hown' hgrow _
    refine h v' w' ?_ ?_
    · have e : (xs ++ [y]).length = xs.length + 1 := by simp
      unfold Gr
      rw [e, List.map_append]
      exact hown'
    · have hb : Below L w (w.alloc (.cells #[(.int .i64 y)] 2)) := (Below.refl L w).alloc hL _
      exact hb.grown hgrow (by simp; omega) (fun j hj => (hown.lt j hj).1)
end Go.Proofs.YtfgbmddmmgipnaaDoor
