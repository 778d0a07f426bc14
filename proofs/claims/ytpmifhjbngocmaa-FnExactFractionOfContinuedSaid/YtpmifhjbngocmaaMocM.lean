/- The matrices of a chain: mathematics; slices of matrices that grow by two. -/
import Derived.Test.YtpmifhjbngocmaaMorS
import Derived.Test.YtpmifhjbngocmaaMxS
import Derived.Deep.RegionLaw
import Derived.Laws.OwnMore
namespace Go.Proofs.Ytpmifhjbngocmaa
open Go.ChangeShapes Go.WideShapes Go.ChangeAt Go.RowKit

/-- The j-th matrix of a chain's product. -/
def chF (s : Int) (xs : List Int) (j : Nat) : Mat := if j = 0 then ⟨s, 0, 0, s⟩ else if j % 2 = 0 then ⟨0, -1, 1, 0⟩ else ⟨1, xs.getD (j / 2) 0, 0, 1⟩
/-- The first matrices: those of k numbers. -/
def chPre (s : Int) (xs : List Int) (k : Nat) : List Mat := (List.range (2 * k)).map (chF s xs)
theorem chPre_len (s : Int) (xs : List Int) (k : Nat) : (chPre s xs k).length = 2 * k := by simp [chPre]
theorem chPre_get (s : Int) (xs : List Int) (k j : Nat) (h : j < (chPre s xs k).length) : (chPre s xs k)[j] = chF s xs j := by simp [chPre]
theorem chPre_one (s : Int) (xs : List Int) (x : Int) (hx : xs.getD 0 0 = x) : chPre s xs 1 = [⟨s, 0, 0, s⟩, ⟨1, x, 0, 1⟩] := by
  subst hx
  simp [chPre, List.range_succ, chF]
theorem chPre_step (s : Int) (xs : List Int) (k : Nat) (hk : 1 ≤ k) (x : Int) (hx : xs.getD k 0 = x) : chPre s xs (k + 1) = chPre s xs k ++ [⟨0, -1, 1, 0⟩, ⟨1, x, 0, 1⟩] := by
  subst hx
  unfold chPre
  rw [show 2 * (k + 1) = 2 * k + 1 + 1 by omega, List.range_succ, List.range_succ]
  simp only [List.map_append, List.map_cons, List.map_nil, List.append_assoc, List.cons_append, List.nil_append]
  congr 1
  have e1 : chF s xs (2 * k) = ⟨0, -1, 1, 0⟩ := by unfold chF; rw [if_neg (by omega), if_pos (by omega)]
  have e2 : chF s xs (2 * k + 1) = ⟨1, xs.getD k 0, 0, 1⟩ := by
    unfold chF
    rw [if_neg (by omega), if_neg (by omega), show (2 * k + 1) / 2 = k by omega]
  rw [e1, e2]
theorem allW_get {xs : List Int} {lim : Int} (h : allW xs lim = true) (k : Nat) : xs.getD k 0 = 0 ∨ inW (xs.getD k 0) lim = true := by
  by_cases hk : k < xs.length
  · right
    have := List.all_eq_true.1 h (xs.getD k 0) (by rw [List.getD, List.getElem?_eq_getElem hk]; exact List.getElem_mem hk)
    exact this
  · left; simp [List.getD, List.getElem?_eq_none (by omega : xs.length ≤ k)]
theorem allW_ent {xs : List Int} (h : allW xs 1000000000 = true) (k : Nat) : Ent (xs.getD k 0) := by
  rcases allW_get h k with h | h
  · rw [h]; unfold Ent; omega
  · exact ent_iff.1 h
theorem chF_is (s : Int) (hs : s = 1 ∨ s = -1) (xs : List Int) (h : allW xs 1000000000 = true) (j : Nat) : (chF s xs j).is = true := by
  have e0 : Ent 0 := by unfold Ent; omega
  have e1 : Ent 1 := by unfold Ent; omega
  have e2 : Ent (-1) := by unfold Ent; omega
  unfold chF
  split
  · rcases hs with rfl | rfl
    · exact (decide_eq_true ⟨e1, e0, e0, e1, by simp⟩ : isM 1 0 0 1 = true)
    · exact (decide_eq_true ⟨e2, e0, e0, e2, by simp⟩ : isM (-1) 0 0 (-1) = true)
  · split
    · exact (decide_eq_true ⟨e0, e2, e1, e0, by simp⟩ : isM 0 (-1) 1 0 = true)
    · exact (decide_eq_true ⟨e1, allW_ent h _, e0, e1, by simp⟩ : isM 1 _ 0 1 = true)
theorem chPre_is (s : Int) (hs : s = 1 ∨ s = -1) (xs : List Int) (h : allW xs 1000000000 = true) (k : Nat) : (chPre s xs k).all Mat.is = true := by
  unfold chPre
  rw [List.all_map, List.all_eq_true]
  intro j _
  exact chF_is s hs xs h j
theorem allW_is' (r : Bool) (xs : List Int) (hr : allW xs 1000000000 = r) (b off cap : Nat) (hn : xs.length ≤ 4294967296) (w : World) (hc : ∀ k, k < xs.length → w.cell? ⟨b, off + k, none⟩ = some (.int .i64 (xs.getD k 0))) :
    Calls Try.prog 34 #[.slice (some ⟨b, off, none⟩) xs.length cap, .int .i64 1000000000] w fun e w' => e = .returned (.bool r) ∧ w = w' := by
  subst hr
  exact allWithin_any xs 1000000000 (by omega) (by omega) b off cap hn w hc

/-- 'append(xs, m, n)' inside a statement that draws its order. -/
theorem step_appA2 {ops : Array Oper} {o : Oper} {a : Act} {W : World} {K : Act → World → Prop} {Q : Exit → Act → World → Prop} {E : Prop} (hgd : o.guard = none) (s x : Operand)
    (ho : o.op = .call { callee := .builtin .append, args := #[s, x], argTypes := #[48, 48] })
    (L : Nat) (v : Value) (n : Nat) (xs : List Int) (y0 y1 y2 y3 y4 y5 y6 y7 : Int) (hs : a.eval s = v) (hown : GrA W L v n xs) (g : Nat) (hx : a.eval x = .slice (some ⟨g, 0, none⟩) 2 2)
    (hc : ∀ j u, [.int .i64 y0, .int .i64 y1, .int .i64 y2, .int .i64 y3, .int .i64 y4, .int .i64 y5, .int .i64 y6, .int .i64 y7][j]? = some u → W.cell? ⟨g, j, none⟩ = some u) (hlen : n ≤ 1000000000) (hL : L ≤ W.heap.size)
    (h : ∀ v' w', GrA w' L v' (n + 2) (xs ++ [y0, y1, y2, y3, y4, y5, y6, y7]) → Below L W w' → K (a.put o.dst v') w') :
    if Region.wanted o (yielded ops a.tmps) = true then Oper.wp Try.prog o a W K Q else E := by
  have hw : Region.wanted o (yielded ops a.tmps) = true := by simp [Region.wanted, hgd]
  rw [if_pos hw]
  obtain ⟨i0, hi, hz0, hz1, hz2⟩ := info_parts info_el
  refine wp_append_own _ s x 48 ho L 23 i0 (.agg #[.int .i64 0, .int .i64 0, .int .i64 0, .int .i64 0]) 4 32 Try.underlying48 hi hz0 hz1 hz2 rfl (by decide) v n _ hs hown ⟨g, 0, none⟩ 2 2 [.int .i64 y0, .int .i64 y1, .int .i64 y2, .int .i64 y3, .int .i64 y4, .int .i64 y5, .int .i64 y6, .int .i64 y7] hx rfl ?_ ?_ ?_ ?_ ?_ ?_
  · intro j u hj
    have e : (⟨g, 0, none⟩ : Addr).add j = ⟨g, j, none⟩ := by
      by_cases h0 : j = 0
      · subst h0; rfl
      · simp [Addr.add, h0]
    rw [e]
    exact hc j u hj
  · intro u hu
    simp only [List.mem_cons, List.not_mem_nil, or_false] at hu
    rcases hu with rfl | rfl | rfl | rfl | rfl | rfl | rfl | rfl <;> rfl
  · unfold maxLen; omega
  · omega
  · exact hL
  · intro v' w' hown' hgrow _
    refine h v' w' ?_ ?_
    · unfold GrA
      rw [List.map_append]
      exact hown'
    · exact (Below.refl L W).grown hgrow hL (fun j hj => (hown.lt j hj).1)
theorem GrA.two (w : World) (L : Nat) (hL : L ≤ w.heap.size) (y0 y1 y2 y3 y4 y5 y6 y7 : Int) : GrA (w.alloc (.cells #[.int .i64 y0, .int .i64 y1, .int .i64 y2, .int .i64 y3, .int .i64 y4, .int .i64 y5, .int .i64 y6, .int .i64 y7] 23)) L (.slice (some ⟨w.heap.size, 0, none⟩) 2 2) 2 [y0, y1, y2, y3, y4, y5, y6, y7] :=
  World.ownsRow_lit w #[.int .i64 y0, .int .i64 y1, .int .i64 y2, .int .i64 y3, .int .i64 y4, .int .i64 y5, .int .i64 y6, .int .i64 y7] 2 hL (by unfold maxLen; omega) rfl
end Go.Proofs.Ytpmifhjbngocmaa
