/- Rows that are cut from one list. -/
import Derived.Test.YtejghidllochoaaDoorAdS
import Derived.Laws.MakeOwn
namespace Go.Proofs.YtejghidllochoaaDoor
open Go.ChangeShapes Go.WideShapes Go.ChangeAt Go.RowKit

theorem madeCells_one (v : Value) (n : Nat) (hv : v.cells = #[v]) : madeCells v.cells ((n : Int).toNat * 1) = Array.replicate n v := by
  apply Array.ext
  · simp [size_madeCells]
  · intro i h1 h2
    simp [madeCells, hv, Nat.mod_one]
theorem made64 (n : Nat) (hn : n ≤ 1048576) (w : World) : (Instr.makeSlice 31 (.int .i64 n) (.int .i64 n)).run Tryd.prog w =
    .ok (.slice (some ⟨w.heap.size, 0, none⟩) n n) (w.alloc (.cells (Array.replicate n (.int .i64 0)) 2)) := by
  obtain ⟨i0, hi, hz0, hz1, hz2⟩ := info_parts info_i64
  have h := run_make (P := Tryd.prog) (w := w) 31 2 i0 (.int .i64 0) Tryd.underlying31 hi hz0 .i64 .i64 n n (by omega) (Int.le_refl _) (by rw [hz2]; omega) (by omega)
  rw [h, hz1, madeCells_one _ n rfl]
  simp
theorem madeRow (m n : Nat) (hm : m ≤ n) (hn : n ≤ 1048576) (w : World) : (Instr.makeSlice 22 (.int .i64 m) (.int .i64 n)).run Tryd.prog w =
    .ok (.slice (some ⟨w.heap.size, 0, none⟩) m n) (w.alloc (.cells (Array.replicate n rowZ) 31)) := by
  obtain ⟨i0, hi, hz0, hz1, hz2⟩ := info_parts info_row
  have h := run_make (P := Tryd.prog) (w := w) 22 31 i0 rowZ Tryd.underlying22 hi hz0 .i64 .i64 m n (by omega) (by omega) (by rw [hz2]; omega) (by omega)
  rw [h, hz1, madeCells_one _ n rfl]
  simp
theorem made0 (n : Nat) (hn : n ≤ 1048576) (w : World) : (Instr.makeSlice 22 (.int .i64 0) (.int .i64 n)).run Tryd.prog w =
    .ok (.slice (some ⟨w.heap.size, 0, none⟩) 0 n) (w.alloc (.cells (Array.replicate n rowZ) 31)) := madeRow 0 n (by omega) hn w
theorem Gr.zer {w : World} {L g : Nat} (hg : w.heap.size = g) (hL : L ≤ g) (n : Nat) (hn : n ≤ 1048576) : Gr (w.alloc (.cells (Array.replicate n (.int .i64 0)) 2)) L (.slice (some ⟨g, 0, none⟩) n n) (zer n) := by
  subst hg
  have h := World.ownsRow_lit (e := 2) (size := 1) (base := L) w (Array.replicate n (Value.int .i64 0)) n hL (by unfold maxLen; omega) (by simp)
  unfold Gr
  have e1 : (Go.Proofs.YtejghidllochoaaDoor.zer n).length = n := by simp [Go.Proofs.YtejghidllochoaaDoor.zer]
  rw [e1]
  have e2 : (Go.Proofs.YtejghidllochoaaDoor.zer n).map (fun x => (.int .i64 x)) = (Array.replicate n (Value.int .i64 0)).toList := by simp [Go.Proofs.YtejghidllochoaaDoor.zer]
  rw [e2]
  exact h

def rowV (g N k : Nat) : Value := .slice (some ⟨g, k * N, none⟩) N N
def rowVs (g N M : Nat) : List Value := (List.range M).map (rowV g N)
theorem rowVs_len (g N M : Nat) : (rowVs g N M).length = M := by simp [rowVs]
theorem rowVs_at {g N M k : Nat} (h : k < M) : (rowVs g N M)[k]? = some (rowV g N k) := by simp [rowVs, h]
theorem rowVs_snoc (g N M : Nat) : rowVs g N (M + 1) = rowVs g N M ++ [rowV g N M] := by simp [rowVs, List.range_succ]
/-- The slice v has M rows of N numbers each, cut from the list in block g, which reads as xs. -/
structure Flat (w : World) (L : Nat) (v : Value) (g N M : Nat) (xs : List Int) : Prop where
  rows : w.ownsRow L 31 1 v M (rowVs g N M)
  flat : Gr w L (.slice (some ⟨g, 0, none⟩) (M * N) (M * N)) xs
  len : xs.length = M * N
theorem Flat.own {w w' : World} {L g N M : Nat} {v : Value} {xs : List Int} (h : Flat w L v g N M xs) (hb : Below w.heap.size w w') : Flat w' L v g N M xs :=
  ⟨kept_none h.rows (grow_below hb), h.flat.own hb, h.len⟩
theorem Flat.drew {w : World} {L g N M : Nat} {v : Value} {xs : List Int} (h : Flat w L v g N M xs) : Flat w.drew L v g N M xs := ⟨h.rows, h.flat, h.len⟩
theorem Flat.put {w w' : World} {L g N M : Nat} {v : Value} {xs ys : List Int} (h : Flat w L v g N M xs) (hg : w.grownBy w' (some g)) (hy : Gr w' L (.slice (some ⟨g, 0, none⟩) (M * N) (M * N)) ys) (hl : ys.length = M * N) : Flat w' L v g N M ys :=
  ⟨kept_apart types_ss h.rows h.flat (by simpa [Value.ownBlock] using hg), hy, hl⟩
theorem Flat.shape {w : World} {L g N M : Nat} {v : Value} {xs : List Int} (h : Flat w L v g N M xs) (hM : 0 < M) : ∃ h0 cap, v = .slice (some ⟨h0, 0, none⟩) M cap ∧ L ≤ h0 ∧ h0 < w.heap.size ∧ h0 ≠ g ∧ ∀ k, k < M → w.cell? ⟨h0, k, none⟩ = some (rowV g N k) := by
  have hr := h.rows
  obtain ⟨hl, ⟨rfl, h0⟩ | ⟨b, cap, cur, rfl, h1, h2, _⟩⟩ := h.rows
  · omega
  · refine ⟨b, cap, rfl, h1, (Array.getElem?_eq_some_iff.1 h2).1, ?_, fun k hk => ?_⟩
    · exact fun e => own_apart types_ss hr h.flat rfl (by rw [e]; rfl)
    · have := hr.cells rfl k (rowV g N k) (rowVs_at hk)
      rwa [add0] at this
theorem Flat.cells {w : World} {L g N M : Nat} {v : Value} {xs : List Int} (h : Flat w L v g N M xs) (hT : 0 < M * N) : L ≤ g ∧ g < w.heap.size ∧ ∀ q, q < M * N → w.cell? ⟨g, q, none⟩ = some (.int .i64 (xs.getD q 0)) ∧ w.frozen? ⟨g, q, none⟩ = false := by
  obtain ⟨g', e, h1, h2, h3⟩ := h.flat.cellsZ hT
  injection e with e
  injection e with e
  subst e
  exact ⟨h1, h2, h3⟩

/-- 'rows = append(rows, row)': the rows as values. -/
theorem appRow {ops : Array Oper} {rest : List Oper} {o : Oper} {a : Act} {Q : Exit → Act → World → Prop} (hgd : o.guard = none) (s x : Operand)
    (ho : o.op = .call { callee := .builtin .append, args := #[s, x], argTypes := #[22, 22] })
    (L : Nat) (w : World) (v : Value) (n : Nat) (vs : List Value) (r : Value) (hs : a.eval s = v) (hown : w.ownsRow L 31 1 v n vs)
    (h1c : r.oneCell' = true) (g : Nat) (hx : a.eval x = .slice (some ⟨g, 0, none⟩) 1 1) (hg : w.heap.size = g) (hlen : n ≤ 1000000) (hL : L ≤ w.heap.size)
    (h : ∀ v' w', w'.ownsRow L 31 1 v' (n + 1) (vs ++ [r]) → (w.alloc (.cells #[r] 31)).grownBy w' v.ownBlock → Below L w w' → wpList Tryd.prog ops Q rest (a.put o.dst v') w') : wpList Tryd.prog ops Q (o :: rest) a (w.alloc (.cells #[r] 31)) := by
  obtain ⟨i0, hi, hz0, hz1, hz2⟩ := info_parts info_row
  subst hg
  refine wpList_append_own _ hgd s x 22 ho L 31 i0 (.slice none 0 0) 1 24 Tryd.underlying22 hi hz0 hz1 hz2 rfl (by decide) v n _ hs (World.ownsRow.alloc hown _) ⟨w.heap.size, 0, none⟩ 1 1 [r] hx rfl ?_ ?_ ?_ ?_ ?_ ?_
  · intro j u hj
    match j, hj with
    | 0, hj => simp at hj; subst hj; simp [Addr.add]
  · intro u hu; simp at hu; subst hu; exact h1c
  · unfold maxLen; omega
  · omega
  · simp; omega
  · intro v' w' hown' hgrow _
    have hb : Below L w (w.alloc (.cells #[r] 31)) := (Below.refl L w).alloc hL _
    exact h v' w' hown' hgrow (hb.grown hgrow (by simp; omega) (fun j hj => (hown.lt j hj).1))
theorem slice3 (g T a b N : Nat) (h1 : a < b) (h2 : b ≤ T) (hN : b - a = N) (w : World) : Sem.run Tryd.prog (Instr.slice 31 (.slice (some ⟨g, 0, none⟩) T T) (some (.int .i64 (a : Int))) (some (.int .i64 (b : Int))) (some (.int .i64 (b : Int)))) w = .ok (.slice (some ⟨g, a, none⟩) N N) w := by
  have h3 : a ≤ b := by omega
  have h4 : b ≠ a := by omega
  simp [Instr.slice, Instr.sliceBounds, Instr.sliceBound, asIntOf, go_sem, h2, h3, h4, hN]
theorem row_made {w : World} {L g n : Nat} (hg : w.heap.size = g) (hL : L ≤ g) (hn : n ≤ 1000000) : (w.alloc (.cells (Array.replicate n rowZ) 31)).ownsRow L 31 1 (.slice (some ⟨g, 0, none⟩) 0 n) 0 [] := by
  subst hg
  exact World.ownsRow_made w _ n hL (by unfold maxLen; omega) (by simp)
theorem row_shape {w : World} {L n : Nat} {v : Value} {vs : List Value} {t : TypeId} (h : w.ownsRow L t 1 v n vs) : ∃ ad cap, v = .slice ad n cap := by
  obtain ⟨_, ⟨rfl, h0⟩ | ⟨g, cap, cur, rfl, _⟩⟩ := h
  · exact ⟨none, 0, by rw [h0]⟩
  · exact ⟨_, cap, rfl⟩

set_option maxRecDepth 100000 in
set_option maxHeartbeats 2000000 in
theorem rowsOfZeros_is (M N T : Nat) (hT : M * N = T) (hT0 : 0 < T) (hM : M ≤ 1000) (hN : N ≤ 1000) (w : World) :
    Calls Tryd.prog 39 #[(.int .i64 ((M : Int))), (.int .i64 ((N : Int)))] w fun e w' => ∃ v g, e = .returned v ∧ Flat w' w.heap.size v g N M (zer (M * N)) ∧ Below w.heap.size w w' := by
  have hTb : T ≤ 1000000 := by rw [← hT]; exact Nat.mul_le_mul hM hN
  have hw0 : IntKind.i64.wrap ((M : Int) * (N : Int)) = (T : Int) := by
    have e0 : (M : Int) * (N : Int) = (T : Int) := by rw [← hT]; simp
    rw [e0]; exact IntWalk.i64_in _ (by omega)
  have hm1 := made64 T (by omega)
  have hm2 := made0 M (by omega)
  have HT := Lib.hid hT
  have hN0 : 0 < N := by
    rcases Nat.eq_zero_or_pos N with e | e
    · rw [e, Nat.mul_zero] at hT; omega
    · exact e
  have HK : Hid (∀ k : Nat, k < M → ∃ a b : Nat, k * N = a ∧ (k + 1) * N = b ∧ a < b ∧ b - a = N ∧ b ≤ T) := Lib.hid fun k hk => ⟨k * N, (k + 1) * N, rfl, rfl, by rw [Nat.add_mul]; omega, by rw [Nat.add_mul]; omega, by
    have h1 : (k + 1) * N ≤ M * N := Nat.mul_le_mul_right N hk
    omega⟩
  clear hT hN0
  go_enter Tryd.func39, Tryd.ntmps39
  go_wp2
  have T0 : Below w.heap.size w ((w.alloc (.cells (Array.replicate T (.int .i64 0)) 2)).alloc (.cells (Array.replicate M rowZ) 31)) := by repeat (first | with_reducible exact own_refl _ | with_reducible assumption | with_reducible apply own_alloc | with_reducible apply own_drewN | with_reducible apply own_drew | ((with_reducible refine own_setCell ?_ ?_ _); rotate_left; focus (first | (simp; done) | (simp; omega))) | (with_reducible (refine own_trans ?_ (by assumption))))
  have G0 : Gr ((w.alloc (.cells (Array.replicate T (.int .i64 0)) 2)).alloc (.cells (Array.replicate M rowZ) 31)) w.heap.size (.slice (some ⟨w.heap.size, 0, none⟩) T T) (zer T) := Gr.alloc (Gr.zer rfl (Nat.le_refl _) T (by omega)) _
  have R0 : ((w.alloc (.cells (Array.replicate T (.int .i64 0)) 2)).alloc (.cells (Array.replicate M rowZ) 31)).ownsRow w.heap.size 31 1 (.slice (some ⟨w.heap.size + 1, 0, none⟩) 0 M) 0 [] := row_made (by simp) (by omega) (by omega)
  generalize (w.alloc (.cells (Array.replicate T (.int .i64 0)) 2)).alloc (.cells (Array.replicate M rowZ) 31) = W at *
  go_loopw [6, 15] (fun v i wr => ∃ k : Nat, k ≤ M ∧ i = (.int .i64 ((k : Int))) ∧ wr.ownsRow w.heap.size 31 1 v k (rowVs w.heap.size N k) ∧ Gr wr w.heap.size (.slice (some ⟨w.heap.size, 0, none⟩) T T) (zer T) ∧ Below w.heap.size w wr) (fun _ i _ => M - (intOf i).toNat)
  case atStart => exact ⟨0, Nat.zero_le _, rfl, R0, G0, T0⟩
  case round =>
    obtain ⟨k, hk, rfl, hR, hG, T1⟩ := hrel
    obtain ⟨ad, cap, hv⟩ := row_shape hR
    subst hv
    by_cases hlt : k < M
    · obtain ⟨a, b, ha, hb, hab, hbN, hbT⟩ := HK.out k hlt
      have hwA : IntKind.i64.wrap ((k : Int) * (N : Int)) = (a : Int) := by
        have e0 : (k : Int) * (N : Int) = (a : Int) := by rw [← ha]; simp
        rw [e0]; exact IntWalk.i64_in _ (by omega)
      have hwB : IntKind.i64.wrap (((k : Int) + 1) * (N : Int)) = (b : Int) := by
        have e0 : ((k : Int) + 1) * (N : Int) = (b : Int) := by rw [← hb]; simp
        rw [e0]; exact IntWalk.i64_in _ (by omega)
      have HA := Lib.hid ha
      have hz := T1.size
      have hzg := (hG.lt w.heap.size rfl).2
      have hsl := slice3 w.heap.size T a b N hab hbT hbN
      clear ha hb hbN
      go_wp2_with (at_builtin; refine appRow rfl _ _ rfl w.heap.size wr (.slice ad k cap) k (rowVs w.heap.size N k) (.slice (some ⟨w.heap.size, a, none⟩) N N) rfl hR rfl wr.heap.size rfl rfl (by omega) (by omega) ?_; intro v' w6 hR6 hg6 hb6)
      have hR7 : w6.ownsRow w.heap.size 31 1 v' (k + 1) (rowVs w.heap.size N (k + 1)) := by
        rw [rowVs_snoc, rowV, HA.out]
        exact hR6
      have hG6 : Gr w6 w.heap.size (.slice (some ⟨w.heap.size, 0, none⟩) T T) (zer T) := kept_apart (Ne.symm types_ss) (hG.alloc _) (World.ownsRow.alloc hR _) hg6
      go_roundw
      case rel => exact ⟨k + 1, by omega, by go_num, hR7, hG6, T1.trans hb6⟩
      case measure => simp [intOf]; omega
    · obtain rfl : k = M := by omega
      go_wp2
      go_ret
      exact ⟨_, w.heap.size, rfl, ⟨hR, by rw [HT.out]; exact hG, by simp [zer]⟩, T1⟩
end Go.Proofs.YtejghidllochoaaDoor
