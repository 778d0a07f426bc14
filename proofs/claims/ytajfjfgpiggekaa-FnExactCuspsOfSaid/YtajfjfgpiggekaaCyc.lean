/- Cycles of cosets under T, and the cusps' numbers: what both sides make of them. No program. -/
import Derived.Test.YtajfjfgpiggekaaCuB
namespace Go.Proofs.Ytajfjfgpiggekaa
open Go.ChangeShapes Go.WideShapes Go.ChangeAt Go.RowKit

/-- the numbers that a cusp's walk meets -/
def cyL (n : Int) (c : Int) : Nat → Nat → List Int → List Int
  | 0, _, _ => []
  | f + 1, j, o => if o.getD j 0 < 0 then (j : Int) :: cyL n c f (nxT n j) (o.set j c) else []
/-- the cycles behind a number of cosets -/
def cys (n : Int) : Nat → List (List Int)
  | 0 => []
  | k + 1 => if (cus n k).1.getD k 0 < 0 then cys n k ++ [cyL n (cus n k).2 ((ln n).length + 1) k (cus n k).1] else cys n k
theorem cyL_yes {n c : Int} {f j : Nat} {o : List Int} (h : o.getD j 0 < 0) : cyL n c (f + 1) j o = (j : Int) :: cyL n c f (nxT n j) (o.set j c) := by rw [cyL, if_pos h]
theorem cyL_no {n c : Int} {f j : Nat} {o : List Int} (h : ¬ o.getD j 0 < 0) : cyL n c f j o = [] := by
  cases f
  · rfl
  · rw [cyL, if_neg h]
theorem getD_set {o : List Int} {i j : Nat} {c : Int} (hj : j < o.length) : (o.set j c).getD i 0 = if i = j then c else o.getD i 0 := by
  by_cases e : i = j
  · subst e; simp [List.getD, hj]
  · rw [if_neg e]; simp [List.getD, List.getElem?_set_ne (Ne.symm e)]
/-- what a walk leaves: the numbers met bear the cusp's number, the others what they bore -/
theorem walk_is {n c : Int} (h1 : 1 ≤ n) (hc : 0 ≤ c) : ∀ (f j : Nat) (o : List Int), j < o.length → o.length = (ln n).length →
    (cyL n c f j o).Nodup ∧ (∀ x ∈ cyL n c f j o, ∃ i : Nat, x = i ∧ i < o.length ∧ o.getD i 0 < 0) ∧
    (∀ i : Nat, i < o.length → (mrk n c f j o).getD i 0 = if (i : Int) ∈ cyL n c f j o then c else o.getD i 0)
  | 0, j, o, _, _ => by simp [cyL, mrk]
  | f + 1, j, o, hj, hl => by
    by_cases h : o.getD j 0 < 0
    · rw [cyL_yes h, mrk_yes h]
      have hn := (nxT_at h1 (show j < (ln n).length by omega)).1
      obtain ⟨r1, r2, r3⟩ := walk_is h1 hc f (nxT n j) (o.set j c) (by rw [List.length_set]; omega) (by rw [List.length_set]; exact hl)
      have hnot : (j : Int) ∉ cyL n c f (nxT n j) (o.set j c) := fun hm => by
        obtain ⟨i, e, _, hi⟩ := r2 _ hm
        have : i = j := by omega
        subst this
        rw [getD_set hj, if_pos rfl] at hi
        omega
      refine ⟨List.nodup_cons.2 ⟨hnot, r1⟩, ?_, ?_⟩
      · intro x hx
        rcases List.mem_cons.1 hx with rfl | hx
        · exact ⟨j, rfl, hj, h⟩
        · obtain ⟨i, e, hi, hi2⟩ := r2 x hx
          rw [List.length_set] at hi
          refine ⟨i, e, hi, ?_⟩
          rw [getD_set hj] at hi2
          split at hi2
          · omega
          · exact hi2
      · intro i hi
        rw [r3 i (by rw [List.length_set]; exact hi), getD_set hj]
        by_cases e : i = j
        · subst e; simp
        · have e' : (i : Int) ≠ j := by omega
          simp [e, e', List.mem_cons]
    · rw [cyL_no h, mrk_no h]
      exact ⟨List.nodup_nil, by simp, by simp⟩
/-- what holds behind a number of cosets -/
theorem cys_is {n : Int} (h1 : 1 ≤ n) : ∀ k : Nat, k ≤ (ln n).length →
    (cys n k).length = (cus n k).2 ∧ (∀ i : Nat, i < (ln n).length → -1 ≤ (cus n k).1.getD i 0 ∧ (cus n k).1.getD i 0 < (cus n k).2) ∧
    (∀ c : Nat, c < (cus n k).2 → ((cys n k).getD c []).Nodup ∧ (∀ x ∈ (cys n k).getD c [], ∃ i : Nat, x = i ∧ i < (ln n).length) ∧
      ∀ i : Nat, i < (ln n).length → ((i : Int) ∈ (cys n k).getD c [] ↔ (cus n k).1.getD i 0 = c))
  | 0, _ => by
    refine ⟨rfl, fun i hi => ?_, fun c hc => ?_⟩
    · simp [cus, List.getD, hi]
    · simp [cus] at hc
  | k + 1, hk => by
    obtain ⟨r1, r2, r3⟩ := cys_is h1 k (by omega)
    have hl := (cus_len n k).1
    rw [cus, cys]
    by_cases h : (cus n k).1.getD k 0 < 0
    · rw [if_pos h, if_pos h]
      obtain ⟨w1, w2, w3⟩ := walk_is (c := ((cus n k).2 : Int)) h1 (by omega) ((ln n).length + 1) k (cus n k).1 (by omega) hl
      generalize cyL n ((cus n k).2 : Int) ((ln n).length + 1) k (cus n k).1 = cy at *
      generalize mrk n ((cus n k).2 : Int) ((ln n).length + 1) k (cus n k).1 = o' at *
      generalize (cus n k).1 = o at *
      generalize (cus n k).2 = s at *
      refine ⟨by simp [r1], fun i hi => ?_, fun c hc => ?_⟩
      · have := r2 i hi
        rw [w3 i (by omega)]
        split <;> simp only [] <;> omega
      · simp only [] at hc ⊢
        by_cases e : c < s
        · have e1 : (cys n k ++ [cy]).getD c [] = (cys n k).getD c [] := by
            simp [List.getD, List.getElem?_append_left (show c < (cys n k).length by omega)]
          rw [e1]
          obtain ⟨q1, q2, q3⟩ := r3 c e
          refine ⟨q1, q2, fun i hi => ?_⟩
          rw [q3 i hi, w3 i (by omega)]
          by_cases hm : (i : Int) ∈ cy
          · rw [if_pos hm]
            obtain ⟨i', e2, _, hi'⟩ := w2 _ hm
            obtain rfl : i = i' := by omega
            constructor
            · intro h5; omega
            · intro h5; omega
          · rw [if_neg hm]
        · obtain rfl : c = s := by omega
          have e1 : (cys n k ++ [cy]).getD c [] = cy := by
            simp [List.getD, ← r1]
          rw [e1]
          refine ⟨w1, fun x hx => ?_, fun i hi => ?_⟩
          · obtain ⟨i, e2, h2, _⟩ := w2 x hx
            exact ⟨i, e2, by omega⟩
          · rw [w3 i (by omega)]
            by_cases hm : (i : Int) ∈ cy
            · simp [hm]
            · rw [if_neg hm]
              have := r2 i hi
              constructor
              · intro h5; exact absurd h5 hm
              · intro h5; omega
    · rw [if_neg h, if_neg h]
      exact ⟨r1, r2, r3⟩
/-- the numbers of cosets with a cusp's number, ascending, up to a bound -/
def rowC (o : List Int) (c : Int) : Nat → List Int
  | 0 => []
  | i + 1 => if o.getD i 0 = c then rowC o c i ++ [(i : Int)] else rowC o c i
theorem rowC_mem {o : List Int} {c : Int} : ∀ {N : Nat} {x : Int}, x ∈ rowC o c N ↔ ∃ i : Nat, x = i ∧ i < N ∧ o.getD i 0 = c
  | 0, x => by simp [rowC]
  | N + 1, x => by
    rw [rowC]
    split
    · rename_i h
      rw [List.mem_append, List.mem_singleton, rowC_mem]
      constructor
      · rintro (⟨i, e, h1, h2⟩ | rfl)
        · exact ⟨i, e, by omega, h2⟩
        · exact ⟨N, rfl, by omega, h⟩
      · rintro ⟨i, e, h1, h2⟩
        rcases (show i < N ∨ i = N by omega) with h3 | rfl
        · exact .inl ⟨i, e, h3, h2⟩
        · exact .inr e
    · rename_i h
      rw [rowC_mem]
      constructor
      · rintro ⟨i, e, h1, h2⟩
        exact ⟨i, e, by omega, h2⟩
      · rintro ⟨i, e, h1, h2⟩
        rcases (show i < N ∨ i = N by omega) with h3 | rfl
        · exact ⟨i, e, h3, h2⟩
        · exact absurd h2 h
theorem rowC_len {o : List Int} {c : Int} : ∀ N : Nat, (rowC o c N).length ≤ N
  | 0 => Nat.le_refl _
  | N + 1 => by
    have := rowC_len (o := o) (c := c) N
    rw [rowC]
    split <;> simp <;> omega
theorem rowC_sorted {o : List Int} {c : Int} : ∀ N : Nat, (rowC o c N).Pairwise (· < ·)
  | 0 => List.Pairwise.nil
  | N + 1 => by
    rw [rowC]
    split
    · refine List.pairwise_append.2 ⟨rowC_sorted N, List.pairwise_singleton _ _, fun a ha b hb => ?_⟩
      obtain ⟨i, e, h1, _⟩ := rowC_mem.1 ha
      have := List.mem_singleton.1 hb
      omega
    · exact rowC_sorted N
/-- two ascending lists of the same numbers are one -/
theorem asc_eq : ∀ {l l' : List Int}, l.Pairwise (· < ·) → l'.Pairwise (· < ·) → (∀ x, x ∈ l ↔ x ∈ l') → l = l'
  | [], [], _, _, _ => rfl
  | [], y :: l', _, _, h => by have := (h y).2 List.mem_cons_self; simp at this
  | x :: l, [], _, _, h => by have := (h x).1 List.mem_cons_self; simp at this
  | x :: l, y :: l', h1, h2, h => by
    have a1 := List.pairwise_cons.1 h1
    have a2 := List.pairwise_cons.1 h2
    have e : x = y := by
      rcases List.mem_cons.1 ((h x).1 List.mem_cons_self) with e | hx
      · exact e
      · rcases List.mem_cons.1 ((h y).2 List.mem_cons_self) with e | hy
        · exact e.symm
        · have := a1.1 y hy
          have := a2.1 x hx
          omega
    subst e
    rw [asc_eq a1.2 a2.2 fun z => ?_]
    constructor
    · intro hz
      rcases List.mem_cons.1 ((h z).1 (List.mem_cons_of_mem _ hz)) with e | hz'
      · have := a1.1 z hz; omega
      · exact hz'
    · intro hz
      rcases List.mem_cons.1 ((h z).2 (List.mem_cons_of_mem _ hz)) with e | hz'
      · have := a2.1 z hz; omega
      · exact hz'
def srt (l : List Int) : List Int := l.mergeSort fun x y => decide (x ≤ y)
theorem srt_asc {l : List Int} (hd : l.Nodup) : (srt l).Pairwise (· < ·) := by
  have h1 : (srt l).Pairwise fun x y => decide (x ≤ y) = true := List.pairwise_mergeSort (fun a b c => by simp; omega) (fun a b => by simp; omega) l
  have h2 : (srt l).Nodup := (List.mergeSort_perm l _).nodup_iff.2 hd
  refine (h1.and h2).imp fun {a b} h => ?_
  have h3 : a ≤ b := by simpa using h.1
  have h4 : a ≠ b := h.2
  omega
theorem srt_mem {l : List Int} {x : Int} : x ∈ srt l ↔ x ∈ l := (List.mergeSort_perm l _).mem_iff
/-- a cycle sorted is the cusp's row -/
theorem cycle_row {n : Int} (h1 : 1 ≤ n) {N c : Nat} (hN : (ln n).length = N) (hc : c < (cus n N).2) : srt ((cys n N).getD c []) = rowC (cus n N).1 c N := by
  obtain ⟨_, _, r3⟩ := cys_is h1 N (by omega)
  obtain ⟨q1, q2, q3⟩ := r3 c hc
  refine asc_eq (srt_asc q1) (rowC_sorted N) fun x => ?_
  rw [srt_mem, rowC_mem]
  constructor
  · intro hx
    obtain ⟨i, rfl, hi⟩ := q2 x hx
    exact ⟨i, rfl, by omega, (q3 i hi).1 hx⟩
  · rintro ⟨i, rfl, hi, ho⟩
    exact (q3 i (by omega)).2 ho
end Go.Proofs.Ytajfjfgpiggekaa
