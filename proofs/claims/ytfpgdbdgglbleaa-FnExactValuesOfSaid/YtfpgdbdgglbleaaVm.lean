/- The values of a form at all places of a square: in whatever order they are listed, sorted and without equal neighbours they are one list. -/
import Derived.Test.YtfpgdbdgglbleaaFmV
import Derived.Lib.SlicesCompact
namespace Go.Proofs.Ytfpgdbdgglbleaa
open Go.ChangeShapes Go.WideShapes Go.ChangeAt Go.RowKit

/-- the values at x and the first j places from -n on -/
def rowV (a b c n x : Int) (j : Nat) : List Int := (List.range j).map fun k => vq a b c x (-n + (k : Nat))
/-- the rows of the first i places from x0 on -/
def rowsV (a b c n x0 : Int) (m : Nat) (i : Nat) : List Int := (List.range i).flatMap fun k => rowV a b c n (x0 + (k : Nat)) m
theorem rowV_succ (a b c n x : Int) (j : Nat) : rowV a b c n x (j + 1) = rowV a b c n x j ++ [vq a b c x (-n + (j : Nat))] := by
  unfold rowV; rw [List.range_succ, List.map_append]; rfl
theorem rowsV_succ (a b c n x0 : Int) (m i : Nat) : rowsV a b c n x0 m (i + 1) = rowsV a b c n x0 m i ++ rowV a b c n (x0 + (i : Nat)) m := by
  unfold rowsV; rw [List.range_succ, List.flatMap_append]; simp
theorem rowV_len (a b c n x : Int) (j : Nat) : (rowV a b c n x j).length = j := by simp [rowV]
theorem rowsV_len (a b c n x0 : Int) (m i : Nat) : (rowsV a b c n x0 m i).length = i * m := by
  induction i with
  | zero => simp [rowsV]
  | succ i ih => rw [rowsV_succ, List.length_append, ih, rowV_len, Nat.succ_mul]

/-- v put into a list that ascends, unless it is there -/
def insV (o : List Int) (v : Int) : List Int := o.filter (fun x => decide (x < v)) ++ v :: o.filter (fun x => decide (v < x))
theorem mem_insV {o : List Int} {v x : Int} : x ∈ insV o v ↔ x = v ∨ x ∈ o := by
  unfold insV
  simp only [List.mem_append, List.mem_filter, List.mem_cons, decide_eq_true_eq]
  constructor
  · rintro (⟨h, _⟩ | h | ⟨h, _⟩)
    · exact .inr h
    · exact .inl h
    · exact .inr h
  · rintro (h | h)
    · exact .inr (.inl h)
    · rcases Int.lt_trichotomy x v with k | k | k
      · exact .inl ⟨h, k⟩
      · exact .inr (.inl k)
      · exact .inr (.inr ⟨h, k⟩)
theorem asc_insV {o : List Int} {v : Int} (h : o.Pairwise (· < ·)) : (insV o v).Pairwise (· < ·) := by
  unfold insV
  rw [List.pairwise_append]
  refine ⟨h.filter _, ?_, ?_⟩
  · rw [List.pairwise_cons]
    refine ⟨fun x hx => ?_, h.filter _⟩
    simpa using (List.mem_filter.1 hx).2
  · intro x hx y hy
    have h1 : x < v := by simpa using (List.mem_filter.1 hx).2
    rcases List.mem_cons.1 hy with rfl | hy
    · exact h1
    · have h2 : v < y := by simpa using (List.mem_filter.1 hy).2
      omega
def allV (o : List Int) (l : List Int) : List Int := l.foldl insV o
theorem mem_allV (l : List Int) : ∀ (o : List Int) (x : Int), x ∈ allV o l ↔ x ∈ o ∨ x ∈ l := by
  induction l with
  | nil => intro o x; simp [allV]
  | cons v l ih =>
    intro o x
    show x ∈ allV (insV o v) l ↔ _
    rw [ih, mem_insV, List.mem_cons]
    constructor
    · rintro ((h | h) | h)
      · exact .inr (.inl h)
      · exact .inl h
      · exact .inr (.inr h)
    · rintro (h | h | h)
      · exact .inl (.inr h)
      · exact .inl (.inl h)
      · exact .inr h
theorem asc_allV (l : List Int) : ∀ (o : List Int), o.Pairwise (· < ·) → (allV o l).Pairwise (· < ·) := by
  induction l with
  | nil => intro o h; exact h
  | cons v l ih => intro o h; exact ih _ (asc_insV h)
theorem allV_snoc (l : List Int) (v : Int) (o : List Int) : allV o (l ++ [v]) = insV (allV o l) v := by simp [allV]
theorem asc_ext : ∀ {l m : List Int}, l.Pairwise (· < ·) → m.Pairwise (· < ·) → (∀ x, x ∈ l ↔ x ∈ m) → l = m
  | [], [], _, _, _ => rfl
  | [], y :: m, _, _, h => by have := (h y).2 (by simp); simp at this
  | x :: l, [], _, _, h => by have := (h x).1 (by simp); simp at this
  | x :: l, y :: m, hl, hm, h => by
    rw [List.pairwise_cons] at hl hm
    have e : x = y := by
      rcases List.mem_cons.1 ((h x).1 (by simp)) with k | k
      · exact k
      · rcases List.mem_cons.1 ((h y).2 (by simp)) with k2 | k2
        · exact k2.symm
        · have := hm.1 x k; have := hl.1 y k2; omega
    subst e
    have : l = m := asc_ext hl.2 hm.2 fun z => by
      have hz := h z
      simp only [List.mem_cons] at hz
      constructor
      · intro k
        rcases hz.1 (.inr k) with e | e
        · have := hl.1 z k; omega
        · exact e
      · intro k
        rcases hz.2 (.inr k) with e | e
        · have := hm.1 z k; omega
        · exact e
    rw [this]

/-- Equal neighbours taken together: of a list that does not descend they leave one that ascends, with the same members. -/
theorem cu_facts (zs : List Int) (hs : zs.Pairwise (· ≤ ·)) : ∀ m, m ≤ zs.length →
    (Lib.compactUpTo zs.toArray m).Pairwise (· < ·) ∧ (∀ x, x ∈ Lib.compactUpTo zs.toArray m ↔ x ∈ zs.take m) := by
  intro m
  induction m with
  | zero => intro _; simp [Lib.compactUpTo]
  | succ m ih =>
    intro hm
    obtain ⟨h1, h2⟩ := ih (by omega)
    have hlt : m < zs.length := by omega
    have hg : zs.toArray[m]! = zs[m] := by simp [hlt]
    rw [Lib.compactUpTo_succ, hg, List.take_succ_eq_append_getElem hlt]
    have hle : ∀ x ∈ zs.take m, x ≤ zs[m] := by
      intro x hx
      obtain ⟨k, hk, rfl⟩ := List.mem_take_iff_getElem.1 hx
      exact List.pairwise_iff_getElem.1 hs k m (by omega) hlt (by omega)
    rcases hk : Lib.keeps zs.toArray m with _ | _
    · have hk' : ¬ (m = 0 ∨ zs.toArray[m]! ≠ zs.toArray[m - 1]!) := of_decide_eq_false hk
      have hm0 : m ≠ 0 := fun e => hk' (.inl e)
      have hm1 : m - 1 < zs.length := by omega
      have hg1 : zs.toArray[m - 1]! = zs[m - 1] := by simp [hm1]
      have heq : zs[m] = zs[m - 1] := by
        rw [hg, hg1] at hk'
        exact Classical.byContradiction fun e => hk' (.inr e)
      simp only [Bool.false_eq_true, if_false, List.append_nil]
      refine ⟨h1, fun x => ?_⟩
      rw [h2, List.mem_append, List.mem_singleton]
      constructor
      · exact .inl
      · rintro (h | rfl)
        · exact h
        · rw [heq]
          exact List.mem_take_iff_getElem.2 ⟨m - 1, by omega, rfl⟩
    · have hk' : m = 0 ∨ zs.toArray[m]! ≠ zs.toArray[m - 1]! := of_decide_eq_true hk
      simp only [if_true]
      refine ⟨?_, fun x => ?_⟩
      · rw [List.pairwise_append]
        refine ⟨h1, by simp, fun x hx y hy => ?_⟩
        rw [List.mem_singleton] at hy
        subst hy
        have hx' := (h2 x).1 hx
        obtain ⟨k, hkk, rfl⟩ := List.mem_take_iff_getElem.1 hx'
        have hm0 : m ≠ 0 := by omega
        have hm1 : m - 1 < zs.length := by omega
        have hg1 : zs.toArray[m - 1]! = zs[m - 1] := by simp [hm1]
        rw [hg, hg1] at hk'
        have hne := hk'.resolve_left hm0
        have q1 : zs[m - 1] ≤ zs[m] := List.pairwise_iff_getElem.1 hs (m - 1) m hm1 hlt (by omega)
        have q2 : zs[k] ≤ zs[m - 1] := by
          by_cases e : k = m - 1
          · subst e; exact Int.le_refl _
          · exact List.pairwise_iff_getElem.1 hs k (m - 1) (by omega) hm1 (by omega)
        omega
      · rw [List.mem_append, List.mem_append, h2]
theorem sorted_one {l o : List Int} (ho : o.Pairwise (· < ·)) (h : ∀ x, x ∈ l ↔ x ∈ o) : Lib.compact (l.mergeSort fun x y => decide (x ≤ y)) = o := by
  have hs : (l.mergeSort fun x y => decide (x ≤ y)).Pairwise (· ≤ ·) := by
    have := List.pairwise_mergeSort (le := fun x y : Int => decide (x ≤ y)) (fun a b c h1 h2 => by simp at *; omega) (fun a b => by simp; omega) l
    exact this.imp (fun h => by simpa using h)
  obtain ⟨h1, h2⟩ := cu_facts _ hs _ (Nat.le_refl _)
  refine asc_ext h1 ho fun x => ?_
  rw [← h, show x ∈ Lib.compact (l.mergeSort fun x y => decide (x ≤ y)) ↔ _ from h2 x, List.take_length]
  exact (List.mergeSort_perm l _).mem_iff

theorem mem_rowV {a b c n x v : Int} {j : Nat} : v ∈ rowV a b c n x j ↔ ∃ k : Nat, k < j ∧ vq a b c x (-n + k) = v := by
  unfold rowV; simp
theorem mem_rowsV {a b c n x0 v : Int} {m i : Nat} : v ∈ rowsV a b c n x0 m i ↔ ∃ k l : Nat, k < i ∧ l < m ∧ vq a b c (x0 + k) (-n + l) = v := by
  unfold rowsV
  simp only [List.mem_flatMap, List.mem_range, mem_rowV]
  constructor
  · rintro ⟨k, hk, l, hl, h⟩; exact ⟨k, l, hk, hl, h⟩
  · rintro ⟨k, l, hk, hl, h⟩; exact ⟨k, hk, l, hl, h⟩
theorem vq_neg (a b c x y : Int) : vq a b c (-x) (-y) = vq a b c x y := by unfold vq; grind
/-- Half of the square has all values. -/
theorem half_all (a b c : Int) (N : Nat) (x : Int) : x ∈ rowsV a b c N (-N) (2 * N + 1) (2 * N + 1) ↔ x ∈ rowsV a b c N 0 (2 * N + 1) (N + 1) := by
  rw [mem_rowsV, mem_rowsV]
  constructor
  · rintro ⟨k, l, hk, hl, h⟩
    by_cases hp : N ≤ k
    · exact ⟨k - N, l, by omega, hl, by rw [← h]; congr 1; omega⟩
    · refine ⟨N - k, 2 * N - l, by omega, by omega, ?_⟩
      rw [← h, ← vq_neg]
      congr 1 <;> omega
  · rintro ⟨k, l, hk, hl, h⟩
    exact ⟨k + N, l, by omega, hl, by rw [← h]; congr 1; omega⟩
/-- What both sides come to. -/
def valuesV (a b c : Int) (N : Nat) : List Int := allV [] (rowsV a b c N 0 (2 * N + 1) (N + 1))
theorem values_impl (a b c : Int) (N : Nat) : Lib.compact ((rowsV a b c N (-N) (2 * N + 1) (2 * N + 1)).mergeSort fun x y => decide (x ≤ y)) = valuesV a b c N := by
  refine sorted_one (asc_allV _ _ List.Pairwise.nil) fun x => ?_
  rw [half_all]
  unfold valuesV
  rw [mem_allV]
  simp

/-- Where v comes into a list that ascends. -/
theorem insV_at {o : List Int} {v : Int} {k : Nat} (hk : k ≤ o.length) (h1 : ∀ i, i < k → o.getD i 0 < v) (h2 : ∀ i, k ≤ i → i < o.length → v < o.getD i 0) :
    insV o v = o.take k ++ v :: o.drop k := by
  have e1 : o.filter (fun x => decide (x < v)) = o.take k := by
    conv => lhs; rw [← List.take_append_drop k o, List.filter_append]
    rw [List.filter_eq_self.2, List.filter_eq_nil_iff.2, List.append_nil]
    · intro x hx
      obtain ⟨i, hi, rfl⟩ := List.mem_drop_iff_getElem.1 hx
      have := h2 (k + i) (by omega) (by omega)
      rw [List.getD, List.getElem?_eq_getElem (by omega)] at this
      simp at this ⊢
      omega
    · intro x hx
      obtain ⟨i, hi, rfl⟩ := List.mem_take_iff_getElem.1 hx
      have := h1 i (by omega)
      rw [List.getD, List.getElem?_eq_getElem (by omega)] at this
      simpa using this
  have e2 : o.filter (fun x => decide (v < x)) = o.drop k := by
    conv => lhs; rw [← List.take_append_drop k o, List.filter_append]
    rw [List.filter_eq_nil_iff.2, List.filter_eq_self.2, List.nil_append]
    · intro x hx
      obtain ⟨i, hi, rfl⟩ := List.mem_drop_iff_getElem.1 hx
      have := h2 (k + i) (by omega) (by omega)
      rw [List.getD, List.getElem?_eq_getElem (by omega)] at this
      simpa using this
    · intro x hx
      obtain ⟨i, hi, rfl⟩ := List.mem_take_iff_getElem.1 hx
      have := h1 i (by omega)
      rw [List.getD, List.getElem?_eq_getElem (by omega)] at this
      simp at this ⊢
      omega
  unfold insV
  rw [e1, e2]
theorem insV_in {o : List Int} {v : Int} (ho : o.Pairwise (· < ·)) (h : v ∈ o) : insV o v = o :=
  asc_ext (asc_insV ho) ho fun x => by rw [mem_insV]; constructor
                                       · rintro (rfl | k)
                                         · exact h
                                         · exact k
                                       · exact .inr
end Go.Proofs.Ytfpgdbdgglbleaa
