/- Slices of matrices that a call makes by append: how they read. -/
import Derived.Test.YtfgbmddmmgipnaaDoorBase
namespace Go.Proofs.YtfgbmddmmgipnaaDoor
open Go.ChangeShapes Go.WideShapes Go.ChangeAt Go.RowKit

theorem info_el : (Tryd.prog.info? 23).map (fun i => (i.zero, i.size, i.bytes)) = some (some (.agg #[.int .i64 0, .int .i64 0, .int .i64 0, .int .i64 0]), 4, 32) := by kernel_rfl
/-- The slice v of n elements owns a row of blocks from L on, and reads as the flat list xs. -/
def GrA (w : World) (L : Nat) (v : Value) (n : Nat) (xs : List Int) : Prop := w.ownsRow L 23 4 v n (xs.map fun x => (.int .i64 x))
/-- The slice v of n elements reads as the flat list xs; its memory lies in one block from L on and below U, not frozen. -/
def SlA (w : World) (L U : Nat) (v : Value) (n : Nat) (xs : List Int) : Prop :=
  xs.length = 4 * n ∧ U ≤ w.heap.size ∧ ∃ (a : Option Addr) (cap : Nat), v = .slice a n cap ∧ (0 < n → ∃ g, a = some ⟨g, 0, none⟩ ∧ L ≤ g ∧ g < U ∧
    ∀ k, k < 4 * n → w.cell? ⟨g, k, none⟩ = some (.int .i64 (xs.getD k 0)) ∧ w.frozen? ⟨g, k, none⟩ = false)
theorem GrA.nil (w : World) (L : Nat) : GrA w L (.slice none 0 0) 0 [] := World.ownsRow_nil _ _ _ _
theorem GrA.madeAt {w : World} {L g : Nat} (hg : w.heap.size = g) (hL : L ≤ g) : GrA (w.alloc (.cells #[] 23)) L (.slice (some ⟨g, 0, none⟩) 0 0) 0 [] := by
  subst hg
  exact World.ownsRow_made w #[] 0 hL (by unfold maxLen; omega) (by simp)
theorem GrA.own {w w' : World} {L n : Nat} {v : Value} {xs : List Int} (h : GrA w L v n xs) (hb : Below w.heap.size w w') : GrA w' L v n xs := by
  refine World.ownsRow.kept (row := none) h ⟨hb.os, hb.tape, hb.output, hb.size, fun k hk _ => hb.block k hk⟩ ?_
  rcases e : v.ownBlock with _ | k
  · exact .inl rfl
  · exact .inr (by simp)
theorem GrA.alloc {w : World} {L n : Nat} {v : Value} {xs : List Int} (h : GrA w L v n xs) (ob : Obj) : GrA (w.alloc ob) L v n xs := World.ownsRow.alloc h ob
theorem GrA.shape {w : World} {L n : Nat} {v : Value} {xs : List Int} (h : GrA w L v n xs) : ∃ ad cap, v = .slice ad n cap := by
  obtain ⟨hl, ⟨rfl, h0⟩ | ⟨g, cap, cur, rfl, _⟩⟩ := h
  · exact ⟨none, 0, by rw [h0]⟩
  · exact ⟨_, cap, rfl⟩
theorem GrA.sl {w : World} {L n : Nat} {v : Value} {xs : List Int} (h : GrA w L v n xs) : SlA w L w.heap.size v n xs := by
  obtain ⟨hl, hc⟩ := h
  have hl' : xs.length = 4 * n := by simpa [Nat.mul_comm] using hl
  refine ⟨hl', Nat.le_refl _, ?_⟩
  obtain ⟨rfl, h0⟩ | ⟨g, cap, cur, rfl, hg, hh, hn, _, hsz, ht⟩ := hc
  · exact ⟨none, 0, by rw [h0], fun hp => by omega⟩
  · refine ⟨_, cap, rfl, fun _ => ⟨g, rfl, hg, (Array.getElem?_eq_some_iff.1 hh).1, fun k hk => ?_⟩⟩
    have hk' : k < xs.length := by omega
    have hc : cur.toList[k]? = some (.int .i64 (xs.getD k 0)) := by
      have h1 : (cur.toList.take (n * 4))[k]? = (xs.map fun x => (.int .i64 x))[k]? := by rw [ht]
      rw [List.getElem?_take_of_lt (by omega), List.getElem?_map, List.getElem?_eq_getElem hk'] at h1
      rw [h1]
      simp [List.getD, List.getElem?_eq_getElem hk']
    have hc' : cur[k]? = some (.int .i64 (xs.getD k 0)) := by rw [← Array.getElem?_toList]; exact hc
    constructor
    · simp [World.cell?, hh, hc']
    · simp [World.frozen?, hh]
theorem SlA.nil (w : World) (L U : Nat) (h : U ≤ w.heap.size) : SlA w L U (.slice none 0 0) 0 [] := ⟨rfl, h, none, 0, rfl, fun h => absurd h (by simp)⟩
theorem SlA.below {w w' : World} {L U n : Nat} {v : Value} {xs : List Int} (h : SlA w L U v n xs) (hb : Below U w w') : SlA w' L U v n xs := by
  obtain ⟨hl, hu, a, cap, rfl, hc⟩ := h
  refine ⟨hl, Nat.le_trans hu hb.size, a, cap, rfl, fun hn => ?_⟩
  obtain ⟨g, rfl, hg, hg', hcell⟩ := hc hn
  refine ⟨g, rfl, hg, hg', fun k hk => ?_⟩
  rw [hb.cell (p := ⟨g, k, none⟩) hg', hb.frozen (p := ⟨g, k, none⟩) hg']
  exact hcell k hk
theorem SlA.own {w w' : World} {L U n : Nat} {v : Value} {xs : List Int} (h : SlA w L U v n xs) (hb : Below w.heap.size w w') : SlA w' L U v n xs := h.below (hb.mono h.2.1)
theorem SlA.weak {w : World} {L L' U n : Nat} {v : Value} {xs : List Int} (h : SlA w L U v n xs) (hL : L' ≤ L) : SlA w L' U v n xs := by
  obtain ⟨hl, hu, a, cap, rfl, hc⟩ := h
  refine ⟨hl, hu, a, cap, rfl, fun h0 => ?_⟩
  obtain ⟨g, rfl, hg, r⟩ := hc h0
  exact ⟨g, rfl, Nat.le_trans hL hg, r⟩

/-- 'xs = append(xs, y)': the list grows by y; nothing below L turns. -/
theorem appA {ops : Array Oper} {rest : List Oper} {ob : Oper} {a : Act} {Q : Exit → Act → World → Prop} (hgd : ob.guard = none) (s x : Operand)
    (ho : ob.op = .call { callee := .builtin .append, args := #[s, x], argTypes := #[66, 66] })
    (L : Nat) (w : World) (v : Value) (n : Nat) (xs : List Int) (y0 y1 y2 y3 : Int) (hs : a.eval s = v) (hown : GrA w L v n xs) (g : Nat) (hx : a.eval x = .slice (some ⟨g, 0, none⟩) 1 1)
    (hg : w.heap.size = g) (hlen : n ≤ 1000000000) (hL : L ≤ w.heap.size)
    (h : ∀ v' w', GrA w' L v' (n + 1) (xs ++ [y0, y1, y2, y3]) → Below L w w' → wpList Tryd.prog ops Q rest (a.put ob.dst v') w') : wpList Tryd.prog ops Q (ob :: rest) a (w.alloc (.cells #[.int .i64 y0, .int .i64 y1, .int .i64 y2, .int .i64 y3] 23)) := by
  obtain ⟨i0, hi, hz0, hz1, hz2⟩ := info_parts info_el
  subst hg
  refine wpList_append_own _ hgd s x 66 ho L 23 i0 (.agg #[.int .i64 0, .int .i64 0, .int .i64 0, .int .i64 0]) 4 32 Tryd.underlying66 hi hz0 hz1 hz2 rfl (by decide) v n _ hs (GrA.alloc hown _) ⟨w.heap.size, 0, none⟩ 1 1 [.int .i64 y0, .int .i64 y1, .int .i64 y2, .int .i64 y3] hx rfl ?_ ?_ ?_ ?_ ?_ ?_
  · intro j u hj
    match j, hj with
    | 0, hj => simp at hj; subst hj; simp [Addr.add]
    | 1, hj => simp at hj; subst hj; simp [Addr.add]
    | 2, hj => simp at hj; subst hj; simp [Addr.add]
    | 3, hj => simp at hj; subst hj; simp [Addr.add]
  · intro u hu
    simp only [List.mem_cons, List.not_mem_nil, or_false] at hu
    rcases hu with rfl | rfl | rfl | rfl <;> rfl
  · unfold maxLen; omega
  · omega
  · simp; omega
  · intro v' w' hown' hgrow _
    refine h v' w' ?_ ?_
    · unfold GrA
      rw [List.map_append]
      exact hown'
    · have hb : Below L w (w.alloc (.cells #[.int .i64 y0, .int .i64 y1, .int .i64 y2, .int .i64 y3] 23)) := (Below.refl L w).alloc hL _
      exact hb.grown hgrow (by simp; omega) (fun j hj => (hown.lt j hj).1)

end Go.Proofs.YtfgbmddmmgipnaaDoor
