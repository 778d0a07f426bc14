/- Slices of slices of integers that a call makes: rows of their own, told by the types of their blocks. -/
import Derived.Test.YtdcomnnpnhinfaaDoorGr
import Derived.Lib.OwnBridge
import Derived.Maps.AppendAt
namespace Go.Proofs.YtdcomnnpnhinfaaDoor
open Go.ChangeShapes Go.WideShapes Go.ChangeAt Go.RowKit

theorem Gr.putZ {w : World} {L g cap k : Nat} {y : Int} {xs : List Int} (h : Gr w L (.slice (some ⟨g, 0, none⟩) xs.length cap) xs) (hk : k < xs.length) :
    Gr (w.setCell ⟨g, k, none⟩ (.int .i64 y)) L (.slice (some ⟨g, 0, none⟩) xs.length cap) (xs.set k y) := by
  obtain ⟨g', cap', e, _, _, _, _, _, hH⟩ := Lib.holds_of_ownsRow (enc := Value.int .i64) h (by simp)
  injection e with e1 e2 e3
  injection e1 with e1
  injection e1 with e1
  subst e1
  have h1 := Sort.putRow_set (Value.int .i64) w g 0 xs.toArray k y (by simpa using hk)
  rw [Sort.putRow_self _ _ _ _ _ hH, Nat.zero_add] at h1
  rw [h1]
  have h2 := Lib.ownsRow_putRow (q := 0) (k := xs.length) (ys := xs.set k y) h (by simp) (Nat.le_refl _)
  rw [List.take_of_length_le (by simp)] at h2
  unfold Gr
  rw [List.length_set]
  have e3 : xs.toArray.setIfInBounds k y = (xs.set k y).toArray := by simp
  rw [e3]
  exact h2
theorem Gr.cellsZ {w : World} {L n cap : Nat} {ad : Option Addr} {xs : List Int} (h : Gr w L (.slice ad n cap) xs) (hn : 0 < n) : ∃ g, ad = some ⟨g, 0, none⟩ ∧ L ≤ g ∧ g < w.heap.size ∧
    (∀ k, k < n → w.cell? ⟨g, k, none⟩ = some (.int .i64 (xs.getD k 0)) ∧ w.frozen? ⟨g, k, none⟩ = false) := by
  have hl := h.len
  simp only [lenOf] at hl
  obtain ⟨g', cap', e, h1, h2, _, _, _, hH⟩ := Lib.holds_of_ownsRow (enc := Value.int .i64) h (by intro e; injection e with _ e _; omega)
  injection e with e1 e2 e3
  refine ⟨g', e1, h1, h2, fun k hk => ?_⟩
  have := hH k (by simp; omega)
  rw [Nat.zero_add] at this
  have e : xs.toArray[k]! = xs.getD k 0 := by simp [List.getD, show k < xs.length by omega]
  rwa [e] at this

def rowZ : Value := .slice none 0 0
/-- The slice v owns its block, whose cells are the rows vs; each row owns its own block and reads as its list. -/
def GrV (w : World) (L : Nat) (v : Value) (vs : List Value) (xss : List (List Int)) : Prop :=
  w.ownsRow L 22 1 v vs.length vs ∧ vs.length = xss.length ∧ (∀ i, i < xss.length → Gr w L (vs.getD i rowZ) (xss.getD i [])) ∧
    ∀ i j, i < j → j < xss.length → ∀ g, (vs.getD i rowZ).ownBlock = some g → (vs.getD j rowZ).ownBlock ≠ some g
def GrSS (w : World) (L : Nat) (v : Value) (xss : List (List Int)) : Prop := ∃ vs, GrV w L v vs xss
theorem GrSS.nil (w : World) (L : Nat) : GrSS w L (.slice none 0 0) [] := ⟨[], World.ownsRow_nil _ _ _ _, rfl, fun i h => by simp at h, fun i j _ h => by simp at h⟩
theorem GrSS.lit (w : World) (L : Nat) (hL : L ≤ w.heap.size) : GrSS (w.alloc (.cells #[] 22)) L (.slice (some ⟨w.heap.size, 0, none⟩) 0 0) [] :=
  ⟨[], World.ownsRow_lit w #[] 0 hL (by unfold maxLen; omega) rfl, rfl, fun i h => by simp at h, fun i j _ h => by simp at h⟩
theorem kept_none {w w' : World} {L : Nat} {t : TypeId} {v : Value} {n : Nat} {xs : List Value} (h : w.ownsRow L t 1 v n xs) (hg : w.grownBy w' none) : w'.ownsRow L t 1 v n xs :=
  World.ownsRow.kept h hg (by rcases e : v.ownBlock with _ | k; exact .inl rfl; exact .inr (by simp))
theorem grow_below {w w' : World} (hb : Below w.heap.size w w') : w.grownBy w' none := ⟨hb.os, hb.tape, hb.output, hb.size, fun k hk _ => hb.block k hk⟩
theorem GrV.kept {w w' : World} {L : Nat} {v : Value} {vs : List Value} {xss : List (List Int)} (h : GrV w L v vs xss) (hg : w.grownBy w' none) : GrV w' L v vs xss :=
  ⟨kept_none h.1 hg, h.2.1, fun i hi => kept_none (h.2.2.1 i hi) hg, h.2.2.2⟩
theorem GrSS.own {w w' : World} {L : Nat} {v : Value} {xss : List (List Int)} (h : GrSS w L v xss) (hb : Below w.heap.size w w') : GrSS w' L v xss := by
  obtain ⟨vs, h⟩ := h
  exact ⟨vs, h.kept (grow_below hb)⟩
theorem GrV.own {w w' : World} {L : Nat} {v : Value} {vs : List Value} {xss : List (List Int)} (h : GrV w L v vs xss) (hb : Below w.heap.size w w') : GrV w' L v vs xss := h.kept (grow_below hb)
theorem GrV.shape {w : World} {L : Nat} {v : Value} {vs : List Value} {xss : List (List Int)} (h : GrV w L v vs xss) : ∃ ad cap, v = .slice ad xss.length cap := by
  obtain ⟨⟨_, h1⟩, h2, _⟩ := h
  rcases h1 with ⟨rfl, h0⟩ | ⟨g, cap, cur, rfl, _⟩
  · exact ⟨none, 0, by rw [← h2, h0]⟩
  · exact ⟨_, cap, by rw [← h2]⟩
theorem GrSS.shape {w : World} {L : Nat} {v : Value} {xss : List (List Int)} (h : GrSS w L v xss) : ∃ ad cap, v = .slice ad xss.length cap := by
  obtain ⟨vs, h⟩ := h
  exact h.shape
theorem own_heap {w : World} {L : Nat} {t : TypeId} {v : Value} {n g : Nat} {xs : List Value} (h : w.ownsRow L t 1 v n xs) (hg : v.ownBlock = some g) : ∃ cur, w.heap[g]? = some (.cells cur t (0, 0)) := by
  rcases h.2 with ⟨rfl, _⟩ | ⟨g', cap, cur, rfl, _, hgg, _⟩
  · simp [Value.ownBlock] at hg
  · simp [Value.ownBlock] at hg
    subst hg
    exact ⟨cur, hgg⟩
theorem own_apart {w : World} {L L' : Nat} {t t' : TypeId} {v v' : Value} {n n' g : Nat} {xs xs' : List Value} (ht : t ≠ t') (h : w.ownsRow L t 1 v n xs) (h' : w.ownsRow L' t' 1 v' n' xs') (hg : v.ownBlock = some g) : v'.ownBlock ≠ some g := by
  intro hg'
  obtain ⟨c, h1⟩ := own_heap h hg
  obtain ⟨c', h2⟩ := own_heap h' hg'
  rw [h1] at h2
  injection h2 with h2
  injection h2 with _ h2 _
  exact ht h2
theorem kept_apart {w w' : World} {L L' : Nat} {t t' : TypeId} {v v' : Value} {n n' : Nat} {xs xs' : List Value} (ht : t ≠ t') (h : w.ownsRow L t 1 v n xs) (h' : w.ownsRow L' t' 1 v' n' xs') (hg : w.grownBy w' v'.ownBlock) : w'.ownsRow L t 1 v n xs := by
  refine World.ownsRow.kept h hg ?_
  rcases e : v.ownBlock with _ | k
  · exact .inl rfl
  · exact .inr fun he => own_apart ht h h' e he.symm
theorem types_ss : (22 : TypeId) ≠ 2 := by decide
theorem info_row : (Tryd.prog.info? 22).map (fun i => (i.zero, i.size, i.bytes)) = some (some (.slice none 0 0), 1, 24) := by kernel_rfl
/-- A row joins the rows: in the world behind the append. -/
theorem GrSS.snoc {wo w w' : World} {L : Nat} {v v' r : Value} {xss : List (List Int)} {xs : List Int} {vs : List Value} (hG : GrV wo L v vs xss) (hw : wo.grownBy w none) (hr : Gr w L r xs)
    (hrb : ∀ k, r.ownBlock = some k → wo.heap.size ≤ k) (hown : w'.ownsRow L 22 1 v' (vs.length + 1) (vs ++ [r])) (hgr : w.grownBy w' v.ownBlock) : GrSS w' L v' (xss ++ [xs]) := by
  obtain ⟨h1, h2, h3, h4⟩ := hG
  have h1w := kept_none h1 hw
  refine ⟨vs ++ [r], ?_, by simp [h2], fun i hi => ?_, fun i j hij hj g hg => ?_⟩
  · rw [List.length_append]; exact hown
  · simp only [List.length_append, List.length_cons, List.length_nil] at hi
    by_cases e : i < xss.length
    · have e1 : (vs ++ [r]).getD i rowZ = vs.getD i rowZ := by simp [List.getD, List.getElem?_append_left (show i < vs.length by omega)]
      have e2 : (xss ++ [xs]).getD i [] = xss.getD i [] := by simp [List.getD, List.getElem?_append_left e]
      rw [e1, e2]
      exact kept_apart (Ne.symm types_ss) (kept_none (h3 i e) hw) h1w hgr
    · obtain rfl : i = xss.length := by omega
      have e1 : (vs ++ [r]).getD xss.length rowZ = r := by simp [List.getD, ← h2]
      have e2 : (xss ++ [xs]).getD xss.length [] = xs := by simp [List.getD]
      rw [e1, e2]
      exact kept_apart (Ne.symm types_ss) hr h1w hgr
  · simp only [List.length_append, List.length_cons, List.length_nil] at hj
    have e1 : (vs ++ [r]).getD i rowZ = vs.getD i rowZ := by simp [List.getD, List.getElem?_append_left (show i < vs.length by omega)]
    rw [e1] at hg
    by_cases e : j < xss.length
    · have e2 : (vs ++ [r]).getD j rowZ = vs.getD j rowZ := by simp [List.getD, List.getElem?_append_left (show j < vs.length by omega)]
      rw [e2]
      exact h4 i j hij e g hg
    · obtain rfl : j = xss.length := by omega
      have e2 : (vs ++ [r]).getD xss.length rowZ = r := by simp [List.getD, ← h2]
      rw [e2]
      intro he
      have a := hrb g he
      have b := ((h3 i (by omega)).lt g hg).2
      omega
/-- 'xss = append(xss, row)'. -/
theorem appSS {ops : Array Oper} {rest : List Oper} {o : Oper} {a : Act} {Q : Exit → Act → World → Prop} (hgd : o.guard = none) (s x : Operand)
    (ho : o.op = .call { callee := .builtin .append, args := #[s, x], argTypes := #[49, 49] })
    (L : Nat) (wo w : World) (v : Value) (xss : List (List Int)) (r : Value) (xs : List Int) (hs : a.eval s = v) (hown : GrSS wo L v xss) (hw : wo.grownBy w none) (hr : Gr w L r xs) (hrb : ∀ k, r.ownBlock = some k → wo.heap.size ≤ k)
    (h1c : r.oneCell' = true) (g : Nat) (hx : a.eval x = .slice (some ⟨g, 0, none⟩) 1 1) (hg : w.heap.size = g) (hlen : xss.length ≤ 1000000) (hL : L ≤ w.heap.size)
    (h : ∀ v' w', GrSS w' L v' (xss ++ [xs]) → Below L w w' → wpList Tryd.prog ops Q rest (a.put o.dst v') w') : wpList Tryd.prog ops Q (o :: rest) a (w.alloc (.cells #[r] 22)) := by
  obtain ⟨i0, hi, hz0, hz1, hz2⟩ := info_parts info_row
  subst hg
  obtain ⟨vs, hV⟩ := hown
  have hvl : vs.length = xss.length := hV.2.1
  have hwn : wo.grownBy (w.alloc (.cells #[r] 22)) none := World.grownBy.trans hw (World.grownBy_alloc _ _ _)
  refine wpList_append_own _ hgd s x 49 ho L 22 i0 (.slice none 0 0) 1 24 Tryd.underlying49 hi hz0 hz1 hz2 rfl (by decide) v vs.length _ hs (kept_none hV.1 hwn) ⟨w.heap.size, 0, none⟩ 1 1 [r] hx rfl ?_ ?_ ?_ ?_ ?_ ?_
  · intro j u hj
    match j, hj with
    | 0, hj => simp at hj; subst hj; simp [Addr.add]
  · intro u hu; simp at hu; subst hu; exact h1c
  · unfold maxLen; omega
  · omega
  · simp; omega
  · intro v' w' hown' hgrow _
    refine h v' w' (GrSS.snoc hV hwn (Gr.alloc hr _) hrb hown' hgrow) ?_
    have hb : Below L w (w.alloc (.cells #[r] 22)) := (Below.refl L w).alloc hL _
    exact hb.grown hgrow (by simp; omega) (fun j hj => (hV.1.lt j hj).1)
/-- Two numbers in a slice of their own. -/
theorem Gr.pair {w : World} {L : Nat} (hL : L ≤ w.heap.size) (c d : Int) : Gr (w.alloc (.cells #[(.int .i64 c), (.int .i64 d)] 2)) L (.slice (some ⟨w.heap.size, 0, none⟩) 2 2) [c, d] :=
  World.ownsRow_lit w #[(.int .i64 c), (.int .i64 d)] 2 hL (by unfold maxLen; omega) rfl
end Go.Proofs.YtdcomnnpnhinfaaDoor
