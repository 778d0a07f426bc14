/- impl.joinNumbers: contract. -/
import Derived.Test.YtfgbmddmmgipnaaDoorTxt
import Derived.Test.YtfgbmddmmgipnaaDoorGr
import Derived.Lib.AppendIntMem
namespace Go.Proofs.YtfgbmddmmgipnaaDoor
open Go.ChangeShapes Go.WideShapes Go.ChangeAt Go.RowKit

theorem info_str : (Tryd.prog.info? 9).map (fun i => (i.zero, i.size, i.bytes)) = some (some (.string ⟨#[]⟩), 1, 16) := by kernel_rfl
/-- The slice v owns a row of blocks from L on, and reads as the texts ss. -/
def GrT (w : World) (L : Nat) (v : Value) (ss : List ByteArray) : Prop := w.ownsRow L 9 1 v ss.length (ss.map fun x => Value.string x)
theorem GrT.own {w w' : World} {L : Nat} {v : Value} {xs : List ByteArray} (h : GrT w L v xs) (hb : Below w.heap.size w w') : GrT w' L v xs := by
  refine World.ownsRow.kept (row := none) h ⟨hb.os, hb.tape, hb.output, hb.size, fun k hk _ => hb.block k hk⟩ ?_
  rcases e : v.ownBlock with _ | k
  · exact .inl rfl
  · exact .inr (by simp)
theorem GrT.shape {w : World} {L : Nat} {v : Value} {xs : List ByteArray} (h : GrT w L v xs) : ∃ ad cap, v = .slice ad xs.length cap := by
  obtain ⟨hl, ⟨rfl, h0⟩ | ⟨g, cap, cur, rfl, _⟩⟩ := h
  · exact ⟨none, 0, by rw [h0]⟩
  · exact ⟨_, cap, rfl⟩
theorem GrT.alloc {w : World} {L : Nat} {v : Value} {xs : List ByteArray} (h : GrT w L v xs) (o : Obj) : GrT (w.alloc o) L v xs := World.ownsRow.alloc h o
theorem GrT.drew {w : World} {L : Nat} {v : Value} {xs : List ByteArray} (h : GrT w L v xs) : GrT w.drew L v xs := h
theorem GrT.made {w : World} {L g n : Nat} {cur : Array Value} (hg : w.heap.size = g) (hL : L ≤ g) (hc : cur.size = n) (hn : n ≤ 1000000) :
    GrT (w.alloc (.cells cur 9)) L (.slice (some ⟨g, 0, none⟩) 0 n) [] := by
  subst hg
  exact World.ownsRow_made w cur n hL (by unfold maxLen; omega) (by omega)
theorem GrT.reads {w : World} {L : Nat} {v : Value} {xs : List ByteArray} (h : GrT w L v xs) (h1 : 0 < xs.length) : ∃ g cap, v = .slice (some ⟨g, 0, none⟩) xs.length cap ∧ g < w.heap.size ∧ xs.length ≤ cap ∧
    ∀ (j : Nat) x, xs[j]? = some x → w.cell? ⟨g, 0 + j, none⟩ = some (.string x) := by
  obtain ⟨hl, ⟨rfl, h0⟩ | ⟨g, cap, cur, rfl, hg, hh, hn, _, hsz, ht⟩⟩ := h
  · omega
  · refine ⟨g, cap, rfl, (Array.getElem?_eq_some_iff.1 hh).1, hn, fun j x hj => ?_⟩
    obtain ⟨hj', hx⟩ := List.getElem?_eq_some_iff.1 hj
    have hc : cur.toList[j]? = some (.string x) := by
      have h1 : (cur.toList.take (xs.length * 1))[j]? = (xs.map fun x => Value.string x)[j]? := by rw [ht]
      rw [List.getElem?_take_of_lt (by omega), List.getElem?_map, hj] at h1
      rw [h1]
      rfl
    have hc' : cur[j]? = some (.string x) := by rw [← Array.getElem?_toList]; exact hc
    rw [Nat.zero_add]
    simp [World.cell?, hh, hc']
/-- 'xs = append(xs, y)': the list grows by y; nothing below L turns. -/
theorem appT {ops : Array Oper} {rest : List Oper} {o : Oper} {a : Act} {Q : Exit → Act → World → Prop} (hgd : o.guard = none) (s x : Operand)
    (ho : o.op = .call { callee := .builtin .append, args := #[s, x], argTypes := #[54, 54] })
    (L : Nat) (w : World) (v : Value) (xs : List ByteArray) (y : ByteArray) (hs : a.eval s = v) (hown : GrT w L v xs) (g : Nat) (hx : a.eval x = .slice (some ⟨g, 0, none⟩) 1 1)
    (hg : w.heap.size = g) (hlen : xs.length ≤ 9000000) (hL : L ≤ w.heap.size)
    (h : ∀ v' w', GrT w' L v' (xs ++ [y]) → Below L w w' → wpList Tryd.prog ops Q rest (a.put o.dst v') w') : wpList Tryd.prog ops Q (o :: rest) a (w.alloc (.cells #[.string y] 9)) := by
  obtain ⟨i0, hi, hz0, hz1, hz2⟩ := info_parts info_str
  subst hg
  refine wpList_append_own _ hgd s x 54 ho L 9 i0 (.string ⟨#[]⟩) 1 16 Tryd.underlying54 hi hz0 hz1 hz2 rfl (by decide) v xs.length _ hs (GrT.alloc hown _) ⟨w.heap.size, 0, none⟩ 1 1 [.string y] hx rfl ?_ ?_ ?_ ?_ ?_ ?_
  · intro j u hj
    match j, hj with
    | 0, hj => simp at hj; subst hj; simp [Addr.add]
  · intro u hu; simp at hu; subst hu; rfl
  · unfold maxLen; omega
  · omega
  · simp; omega
  · intro v' w' hown' hgrow _
    refine h v' w' ?_ ?_
    · have e : (xs ++ [y]).length = xs.length + 1 := by simp
      unfold GrT
      rw [e, List.map_append]
      exact hown'
    · have hb : Below L w (w.alloc (.cells #[.string y] 9)) := (Below.refl L w).alloc hL _
      exact hb.grown hgrow (by simp; omega) (fun j hj => (hown.lt j hj).1)
/-- the table of the powers of ten stands -/
def PT (w : World) : Prop := Lib.TabIs Tryd.prog w "internal/strconv.uint64pow10" .u64 Lib.pow10Tab
theorem PT.below {w w' : World} (h : PT w) (hb : Below w.heap.size w w') : PT w' := by
  unfold PT Lib.TabIs World.var? at *
  obtain ⟨g, hg, hv⟩ := Option.bind_eq_some_iff.1 h
  rw [hg]
  simp only [Option.bind_some]
  have hlt : g < w.heap.size := by
    rcases Nat.lt_or_ge g w.heap.size with h' | h'
    · exact h'
    · rw [Array.getElem?_eq_none h'] at hv; cases hv
  rw [hb.block g hlt]
  exact hv
theorem PT.alloc {w : World} (h : PT w) (ob : Obj) : PT (w.alloc ob) := h.below ((Below.refl _ w).alloc (Nat.le_refl _) ob)
theorem PT.drew {w : World} (h : PT w) : PT w.drew := h
theorem makeT (n : Nat) (hn : n ≤ 1000000) : ∃ cur : Array Value, cur.size = n ∧ ∀ w : World, (Instr.makeSlice 54 (.int .i64 0) (.int .i64 n)).run Tryd.prog w =
    .ok (.slice (some ⟨w.heap.size, 0, none⟩) 0 n) (w.alloc (.cells cur 9)) := by
  obtain ⟨i0, hi, hz0, hz1, hz2⟩ := info_parts info_str
  refine ⟨madeCells (Value.string ⟨#[]⟩).cells (n * 1), by rw [size_madeCells]; omega, fun w => ?_⟩
  have h := run_make (P := Tryd.prog) (w := w) 54 9 i0 (.string ⟨#[]⟩) Tryd.underlying54 hi hz0 .i64 .i64 0 n (Int.le_refl _) (by omega) (by rw [hz2]; omega) (by omega)
  rw [h, hz1]
  simp
theorem take_snoc (xs : List Int) (k : Nat) (hk : k < xs.length) : (xs.take (k + 1)).map itoaB = (xs.take k).map itoaB ++ [itoaB (xs.getD k 0)] := by
  rw [List.take_add_one, List.map_append]
  simp [List.getD, List.getElem?_eq_getElem hk]
theorem fmt_any (n : Int) (h : I64 n) (w : World) (hp : PT w) : Calls Tryd.prog 49 #[(.int .i64 n), (.int .i64 10)] w fun e w' => e = .returned (.string (itoaB n)) ∧ Below w.heap.size w w' := by
  unfold I64 at h
  refine (strconv_FormatInt_10 n (by omega) (by omega) w hp).mono ?_
  rintro e w' ⟨rfl, k, os, rfl⟩
  exact ⟨rfl, Lib.below_grow _ w (Nat.le_refl _) k os⟩
end Go.Proofs.YtfgbmddmmgipnaaDoor
