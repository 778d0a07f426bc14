/- Slices of slices, each of which owns its memory; and how slices of slices read. -/
import Derived.Test.YtejghidllochoaaDoorMS
import Derived.Maps.AppendAt
namespace Go.Proofs.YtejghidllochoaaDoor
open Go.ChangeShapes Go.WideShapes Go.ChangeAt Go.RowKit

/-- The slice v owns its block, whose cells are the rows vs; each row owns its memory and reads as its list. -/
def GrW (w : World) (L : Nat) (v : Value) (vs : List Value) (xss : List (List Int)) : Prop :=
  w.ownsRow L 31 1 v vs.length vs ∧ vs.length = xss.length ∧ ∀ i, i < xss.length → Gr w L (vs.getD i rowZ) (xss.getD i [])
theorem GrW.own {w w' : World} {L : Nat} {v : Value} {vs : List Value} {xss : List (List Int)} (h : GrW w L v vs xss) (hb : Below w.heap.size w w') : GrW w' L v vs xss :=
  ⟨kept_none h.1 (grow_below hb), h.2.1, fun i hi => (h.2.2 i hi).own hb⟩
theorem GrW.lit {w : World} {L g : Nat} (hg : w.heap.size = g) (hL : L ≤ g) : GrW (w.alloc (.cells #[] 31)) L (.slice (some ⟨g, 0, none⟩) 0 0) [] [] := by
  subst hg
  exact ⟨World.ownsRow_lit w #[] 0 hL (by unfold maxLen; omega) rfl, rfl, fun i h => by simp at h⟩
theorem GrW.shape {w : World} {L : Nat} {v : Value} {vs : List Value} {xss : List (List Int)} (h : GrW w L v vs xss) : ∃ ad cap, v = .slice ad xss.length cap := by
  obtain ⟨⟨_, h1⟩, h2, _⟩ := h
  rcases h1 with ⟨rfl, h0⟩ | ⟨g, cap, cur, rfl, _⟩
  · exact ⟨none, 0, by rw [← h2, h0]⟩
  · exact ⟨_, cap, by rw [← h2]⟩
theorem GrW.other {w w' : World} {L L' n2 : Nat} {v v2 : Value} {vs us : List Value} {xss : List (List Int)} (h : GrW w L v vs xss) (h2 : w.ownsRow L' 31 1 v2 n2 us)
    (hne : ∀ g, v.ownBlock = some g → v2.ownBlock ≠ some g) (hg : w.grownBy w' v2.ownBlock) : GrW w' L v vs xss := by
  refine ⟨World.ownsRow.kept h.1 hg ?_, h.2.1, fun i hi => kept_apart (Ne.symm types_ss) (h.2.2 i hi) h2 hg⟩
  rcases e : v.ownBlock with _ | k
  · exact .inl rfl
  · exact .inr fun he => hne k e he.symm
theorem GrW.snoc {w w' : World} {L : Nat} {v v' r : Value} {vs : List Value} {xss : List (List Int)} {xs : List Int} (h : GrW w L v vs xss) (hr : Gr w L r xs) (hown : w'.ownsRow L 31 1 v' (vs.length + 1) (vs ++ [r]))
    (hg : w.grownBy w' v.ownBlock) : GrW w' L v' (vs ++ [r]) (xss ++ [xs]) := by
  obtain ⟨h1, h2, h3⟩ := h
  refine ⟨by rw [List.length_append]; exact hown, by simp [h2], fun i hi => ?_⟩
  simp only [List.length_append, List.length_cons, List.length_nil] at hi
  by_cases e : i < xss.length
  · have e1 : (vs ++ [r]).getD i rowZ = vs.getD i rowZ := by simp [List.getD, List.getElem?_append_left (show i < vs.length by omega)]
    have e2 : (xss ++ [xs]).getD i [] = xss.getD i [] := by simp [List.getD, List.getElem?_append_left e]
    rw [e1, e2]
    exact kept_apart (Ne.symm types_ss) (h3 i e) h1 hg
  · obtain rfl : i = xss.length := by omega
    have e1 : (vs ++ [r]).getD xss.length rowZ = r := by simp [List.getD, ← h2]
    have e2 : (xss ++ [xs]).getD xss.length [] = xs := by simp [List.getD]
    rw [e1, e2]
    exact kept_apart (Ne.symm types_ss) hr h1 hg
theorem GrW.join {w w' : World} {L : Nat} {v v' v2 : Value} {vs us : List Value} {xss yss : List (List Int)} (h : GrW w L v vs xss) (h2 : GrW w L v2 us yss) (hown : w'.ownsRow L 31 1 v' (vs.length + us.length) (vs ++ us))
    (hg : w.grownBy w' v.ownBlock) : GrW w' L v' (vs ++ us) (xss ++ yss) := by
  obtain ⟨h1, l1, h3⟩ := h
  obtain ⟨_, l2, h4⟩ := h2
  refine ⟨by rw [List.length_append]; exact hown, by simp [l1, l2], fun i hi => ?_⟩
  rw [List.length_append] at hi
  by_cases e : i < xss.length
  · have e1 : (vs ++ us).getD i rowZ = vs.getD i rowZ := by simp [List.getD, List.getElem?_append_left (show i < vs.length by omega)]
    have e2 : (xss ++ yss).getD i [] = xss.getD i [] := by simp [List.getD, List.getElem?_append_left e]
    rw [e1, e2]
    exact kept_apart (Ne.symm types_ss) (h3 i e) h1 hg
  · have e1 : (vs ++ us).getD i rowZ = us.getD (i - xss.length) rowZ := by simp [List.getD, List.getElem?_append_right (show vs.length ≤ i by omega), l1]
    have e2 : (xss ++ yss).getD i [] = yss.getD (i - xss.length) [] := by simp [List.getD, List.getElem?_append_right (show xss.length ≤ i by omega)]
    rw [e1, e2]
    exact kept_apart (Ne.symm types_ss) (h4 _ (by omega)) h1 hg
/-- 'rows = append(rows, more...)': the rows as values; the block is the old one or the next one. -/
theorem appRowAt {ops : Array Oper} {rest : List Oper} {o : Oper} {a : Act} {Q : Exit → Act → World → Prop} (hgd : o.guard = none) (s x : Operand)
    (ho : o.op = .call { callee := .builtin .append, args := #[s, x], argTypes := #[22, 22] })
    (L : Nat) (w : World) (v : Value) (n : Nat) (vs us : List Value) (hs : a.eval s = v) (hown : w.ownsRow L 31 1 v n vs)
    (m c g : Nat) (hx : a.eval x = .slice (some ⟨g, 0, none⟩) m c) (hm : us.length = m) (hc : ∀ j u, us[j]? = some u → w.cell? ⟨g, j, none⟩ = some u) (h1c : ∀ u ∈ us, u.oneCell' = true) (hlen : n + m ≤ 1000000) (hL : L ≤ w.heap.size)
    (h : ∀ v' w', w'.ownsRow L 31 1 v' (n + m) (vs ++ us) → w.grownBy w' v.ownBlock → (v'.ownBlock = v.ownBlock ∨ v'.ownBlock = some w.heap.size) → Below L w w' → wpList Tryd.prog ops Q rest (a.put o.dst v') w') : wpList Tryd.prog ops Q (o :: rest) a w := by
  obtain ⟨i0, hi, hz0, hz1, hz2⟩ := info_parts info_row
  refine wpList_append_own_at _ hgd s x 22 ho L 31 i0 (.slice none 0 0) 1 24 Tryd.underlying22 hi hz0 hz1 hz2 rfl (by decide) v n _ hs hown ⟨g, 0, none⟩ m c us hx (by omega) ?_ h1c ?_ ?_ hL ?_
  · intro j u hj
    rw [add0]
    exact hc j u hj
  · unfold maxLen; omega
  · omega
  · intro v' w' hown' hgrow _ hat
    exact h v' w' hown' hgrow hat ((Below.refl L w).grown hgrow hL (fun j hj => (hown.lt j hj).1))
theorem GrW.cells {w : World} {L n cap : Nat} {ad : Option Addr} {vs : List Value} {xss : List (List Int)} (h : GrW w L (.slice ad n cap) vs xss) (hn : 0 < n) : ∃ g, ad = some ⟨g, 0, none⟩ ∧ g < w.heap.size ∧ ∀ j u, vs[j]? = some u → w.cell? ⟨g, j, none⟩ = some u := by
  have hs := h.1
  obtain ⟨⟨_, ⟨e, h0⟩ | ⟨g, cap', cur, e, hg, hh, _⟩⟩, _⟩ := h
  · injection e with e1 e2 e3
    omega
  · injection e with e1 e2 e3
    refine ⟨g, e1, (Array.getElem?_eq_some_iff.1 hh).1, fun j u hj => ?_⟩
    have := hs.cells (g := g) (by rw [e1]; rfl) j u hj
    rwa [add0] at this
theorem GrW.oneC {w : World} {L : Nat} {v : Value} {vs : List Value} {xss : List (List Int)} (h : GrW w L v vs xss) : ∀ u ∈ vs, u.oneCell' = true := fun u hu => by
  obtain ⟨i, hi, rfl⟩ := List.getElem_of_mem hu
  have h2 := h.2.2 i (by rw [← h.2.1]; exact hi)
  have e : vs.getD i rowZ = vs[i] := by simp [List.getD, List.getElem?_eq_getElem hi]
  rw [e] at h2
  obtain ⟨ad, cap, e2⟩ := h2.shape
  rw [e2]
  rfl
end Go.Proofs.YtejghidllochoaaDoor
