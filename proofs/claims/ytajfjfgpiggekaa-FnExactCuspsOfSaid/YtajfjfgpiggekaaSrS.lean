/- A row of rows of one's own, sorted where it lies. -/
import Derived.Test.YtajfjfgpiggekaaShs
import Derived.Test.YtajfjfgpiggekaaSS
import Derived.Test.YtajfjfgpiggekaaCyc
import Derived.Test.YtajfjfgpiggekaaCyO
import Derived.Sort.OwnSortedInts
namespace Go.Proofs.Ytajfjfgpiggekaa
open Go.ChangeShapes Go.WideShapes Go.ChangeAt Go.RowKit

theorem sort_own (v : Value) (xs : List Int) (L : Nat) (w : World) (h : Gr w L v xs) (hx : xs ≠ []) (hn : xs.length ≤ 9000000000) (hL : L ≤ w.heap.size) :
    Calls Try.prog 75 #[v] w fun e w' => e = .returned (.tuple #[]) ∧ Gr w' L v (srt xs) ∧ Below L w w' ∧ w.grownBy w' v.ownBlock := by
  have hv : v ≠ .slice none 0 0 := by
    rintro rfl
    have := h.len
    simp only [lenOf] at this
    exact hx (List.length_eq_zero_iff.1 this.symm)
  obtain ⟨g, cap, rfl, hg, hgw, _, _, _, hH⟩ := Lib.holds_of_ownsRow (enc := Value.int .i64) h hv
  refine (slices_Sort_int g 0 cap xs w hH hgw (by omega)).mono ?_
  rintro e w' ⟨rfl, n, os, rfl⟩
  have hl : (srt xs).length = xs.length := List.length_mergeSort _
  have hgb := grownBy_sortedI (w := w) (g := g) (n := n) (os := os) (srt xs).toArray
  obtain ⟨_, hc⟩ := id h
  rcases hc with ⟨e, _⟩ | ⟨g', cap', cur, e, h1, h2, h3, h4, h5, h6⟩
  · injection e with e; injection e
  · injection e with e1 e2 e3
    injection e1 with e1
    injection e1 with e1
    subst e1 e3
    refine ⟨rfl, ?_, ?_, hgb⟩
    · have r := ownsRow_sortedI (n := n) (os := os) (ts := srt xs) hl h1 h2 h3 h4 h5
      unfold Gr
      rw [hl]
      exact r
    · exact (Below.refl L w).grown hgb hL (fun k e => by injection e with e; omega)
/-- a row turned in its own block -/
theorem GrV.turn {w w' : World} {L j : Nat} {v : Value} {vs : List Value} {xss : List (List Int)} {ys : List Int} (h : GrV w L v vs xss) (hj : j < xss.length) (hr : Gr w' L (vs.getD j rowZ) ys) (hg : w.grownBy w' (vs.getD j rowZ).ownBlock) : GrV w' L v vs (xss.set j ys) := by
  obtain ⟨h1, h2, h3, h4⟩ := h
  refine ⟨kept_apart types_ss h1 (h3 j hj) hg, by simp [h2], fun i hi => ?_, fun a b hab hb => h4 a b hab (by simpa using hb)⟩
  rw [List.length_set] at hi
  by_cases e : i = j
  · subst e
    have e1 : (xss.set i ys).getD i [] = ys := by simp [List.getD, hi]
    rw [e1]
    exact hr
  · have e1 : (xss.set j ys).getD i [] = xss.getD i [] := by simp [List.getD, List.getElem?_set_ne (Ne.symm e)]
    rw [e1]
    refine World.ownsRow.kept (h3 i hi) hg ?_
    rcases eb : (vs.getD i rowZ).ownBlock with _ | k
    · exact .inl rfl
    · refine .inr fun he => ?_
      rcases Nat.lt_or_gt_of_ne e with hlt | hlt
      · exact h4 i j hlt hj k eb he.symm
      · exact h4 j i hlt hi k he.symm eb
/-- the first i rows sorted -/
def srtF (css : List (List Int)) (i : Nat) : List (List Int) := (css.take i).map srt ++ css.drop i
theorem srtF_len (css : List (List Int)) (i : Nat) : (srtF css i).length = css.length := by simp [srtF]; omega
theorem srtF_at {css : List (List Int)} {i : Nat} (hi : i < css.length) : (srtF css i).getD i [] = css.getD i [] := by
  simp [srtF, List.getD, List.getElem?_append_right, List.length_take, show min i css.length = i by omega, List.getElem?_drop]
theorem srtF_step {css : List (List Int)} {i : Nat} (hi : i < css.length) : srtF css (i + 1) = (srtF css i).set i (srt (css.getD i [])) := by
  unfold srtF
  have e : i - ((css.take i).map srt).length = 0 := by simp; omega
  rw [List.take_succ_eq_append_getElem hi, List.map_append, List.set_append_right _ _ (by simp; omega), e, List.drop_eq_getElem_cons hi, List.set_cons_zero]
  have e2 : css.getD i [] = css[i] := by simp [List.getD, List.getElem?_eq_getElem hi]
  rw [e2, List.append_assoc]
  rfl
theorem srtF_end (css : List (List Int)) : srtF css css.length = css.map srt := by simp [srtF]
theorem cys_some (n : Int) : ∀ (k c : Nat), c < (cys n k).length → (cys n k).getD c [] ≠ []
  | 0, c, h => by simp [cys] at h
  | k + 1, c, h => by
    rw [cys] at h ⊢
    by_cases e : (cus n k).1.getD k 0 < 0
    · rw [if_pos e] at h ⊢
      rw [List.length_append] at h
      simp only [List.length_cons, List.length_nil] at h
      by_cases hc : c < (cys n k).length
      · have e1 : ∀ z, (cys n k ++ [z]).getD c [] = (cys n k).getD c [] := fun z => by simp [List.getD, List.getElem?_append_left hc]
        rw [e1]
        exact cys_some n k c hc
      · obtain rfl : c = (cys n k).length := by omega
        have e1 : ∀ z : List Int, (cys n k ++ [z]).getD (cys n k).length [] = z := fun z => by simp [List.getD]
        rw [e1, cyL_yes e]
        simp
    · rw [if_neg e] at h ⊢
      exact cys_some n k c h
theorem rowsC_at (o : List Int) (N : Nat) : ∀ (k c : Nat), c < k → (rowsC o N k).getD c [] = rowC o c N
  | 0, c, h => by omega
  | k + 1, c, h => by
    rw [rowsC]
    by_cases e : c < k
    · have e1 : ∀ z, (rowsC o N k ++ [z]).getD c [] = (rowsC o N k).getD c [] := fun z => by
        simp [List.getD, List.getElem?_append_left (show c < (rowsC o N k).length by rw [rowsC_len]; exact e)]
      rw [e1]
      exact rowsC_at o N k c e
    · obtain rfl : c = k := by omega
      have hl := rowsC_len o N c
      have e1 : ∀ z : List Int, (rowsC o N c ++ [z]).getD c [] = z := fun z => by
        simp [List.getD, hl]
      rw [e1]
/-- the cycles sorted are the rows of the cusps -/
theorem cys_rows {n : Int} (h1 : 1 ≤ n) {N : Nat} (hN : (ln n).length = N) : (cys n N).map srt = rowsC (cus n N).1 N (cus n N).2 := by
  obtain ⟨hl, _, _⟩ := cys_is h1 N (by omega)
  refine List.ext_getElem (by rw [List.length_map, rowsC_len, hl]) fun c hc1 hc2 => ?_
  rw [List.length_map] at hc1
  have a := cycle_row h1 hN (c := c) (by omega)
  have b := rowsC_at (cus n N).1 N (cus n N).2 c (by omega)
  have e1 : (cys n N).getD c [] = (cys n N)[c] := by simp [List.getD, List.getElem?_eq_getElem hc1]
  have e2 : (rowsC (cus n N).1 N (cus n N).2).getD c [] = (rowsC (cus n N).1 N (cus n N).2)[c] := by simp [List.getD, List.getElem?_eq_getElem hc2]
  rw [List.getElem_map, ← e1, ← e2, a, b]
end Go.Proofs.Ytajfjfgpiggekaa
