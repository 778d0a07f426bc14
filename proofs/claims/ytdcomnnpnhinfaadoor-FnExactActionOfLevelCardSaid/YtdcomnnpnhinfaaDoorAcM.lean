/- Actions: lists of the numbers below n, the points met, renumbered lists. Mathematics only. -/
import Derived.Test.YtdcomnnpnhinfaaDoorBase
namespace Go.Proofs.YtdcomnnpnhinfaaDoor

/-- each number is below the flags' count and met once -/
def ordG : List Int → List Bool → Bool
  | [], _ => true
  | x :: r, m => if 0 ≤ x ∧ x < (m.length : Int) ∧ m.getD x.toNat false = false then ordG r (m.set x.toNat true) else false
def ord (xs : List Int) (n : Nat) : Bool := decide (xs.length = n) && ordG xs (List.replicate n false)
/-- where a list leads a number -/
def pt (xs : List Int) (i : Nat) : Nat := (xs.getD i 0).toNat
theorem getB_set {m : List Bool} {i j : Nat} (hj : j < m.length) : (m.set j true).getD i false = if i = j then true else m.getD i false := by
  by_cases e : i = j
  · subst e; simp [List.getD, hj]
  · rw [if_neg e]; simp [List.getD, List.getElem?_set_ne (Ne.symm e)]
theorem ordG_is : ∀ (xs : List Int) (m : List Bool), ordG xs m = true → xs.Nodup ∧ ∀ x ∈ xs, 0 ≤ x ∧ x < (m.length : Int) ∧ m.getD x.toNat false = false
  | [], _, _ => by simp
  | x :: r, m, h => by
    rw [ordG] at h
    by_cases hx : 0 ≤ x ∧ x < (m.length : Int) ∧ m.getD x.toNat false = false
    · rw [if_pos hx] at h
      obtain ⟨h1, h2⟩ := ordG_is r _ h
      have hl : x.toNat < m.length := by omega
      have h3 : ∀ y ∈ r, 0 ≤ y ∧ y < (m.length : Int) ∧ y ≠ x ∧ m.getD y.toNat false = false := fun y hy => by
        obtain ⟨a, b, c⟩ := h2 y hy
        rw [List.length_set] at b
        rw [getB_set hl] at c
        by_cases e : y.toNat = x.toNat
        · rw [if_pos e] at c; simp at c
        · rw [if_neg e] at c
          exact ⟨a, b, fun he => e (by rw [he]), c⟩
      refine ⟨List.nodup_cons.2 ⟨fun hm => (h3 x hm).2.2.1 rfl, h1⟩, fun y hy => ?_⟩
      rcases List.mem_cons.1 hy with rfl | hy
      · exact hx
      · obtain ⟨a, b, _, c⟩ := h3 y hy
        exact ⟨a, b, c⟩
    · rw [if_neg hx] at h
      simp at h
/-- a list of the numbers below n, each once -/
structure Pm (xs : List Int) (n : Nat) : Prop where
  len : xs.length = n
  nodup : xs.Nodup
  bd : ∀ x ∈ xs, 0 ≤ x ∧ x < (n : Int)
theorem ord_is {xs : List Int} {n : Nat} (h : ord xs n = true) : Pm xs n := by
  rw [ord, Bool.and_eq_true] at h
  obtain ⟨h1, h2⟩ := ordG_is xs _ h.2
  have h0 : xs.length = n := of_decide_eq_true h.1
  refine ⟨h0, h1, fun x hx => ?_⟩
  obtain ⟨a, b, _⟩ := h2 x hx
  rw [List.length_replicate] at b
  exact ⟨a, b⟩
theorem getD_mem {xs : List Int} {i : Nat} (h : i < xs.length) : xs.getD i 0 ∈ xs := by
  have : xs.getD i 0 = xs[i] := by simp [List.getD, h]
  rw [this]
  exact List.getElem_mem h
/-- the numbers of a list lie below n -/
def Bd (xs : List Int) (n : Nat) : Prop := ∀ i, i < xs.length → 0 ≤ xs.getD i 0 ∧ xs.getD i 0 < (n : Int)
theorem Bd.at {xs : List Int} {n : Nat} (h : Bd xs n) {i : Nat} (hi : i < xs.length) : xs.getD i 0 = (pt xs i : Int) ∧ pt xs i < n := by
  obtain ⟨a, b⟩ := h i hi
  unfold pt
  omega
theorem Pm.b {xs : List Int} {n : Nat} (h : Pm xs n) : Bd xs n := fun _ hi => h.bd _ (getD_mem hi)
theorem Pm.at {xs : List Int} {n : Nat} (h : Pm xs n) {i : Nat} (hi : i < n) : xs.getD i 0 = (pt xs i : Int) ∧ pt xs i < n := h.b.at (by rw [h.len]; exact hi)
theorem nodup_at {xs : List Int} (h : xs.Nodup) {i j : Nat} (hi : i < xs.length) (hj : j < xs.length) (e : xs.getD i 0 = xs.getD j 0) : i = j := by
  have e1 : xs.getD i 0 = xs[i] := by simp [List.getD, hi]
  have e2 : xs.getD j 0 = xs[j] := by simp [List.getD, hj]
  rw [e1, e2] at e
  have hp := List.pairwise_iff_getElem.1 h
  rcases Nat.lt_trichotomy i j with h1 | h1 | h1
  · exact absurd e (hp i j hi hj h1)
  · exact h1
  · exact absurd e.symm (hp j i hj hi h1)
theorem Pm.inj {xs : List Int} {n : Nat} (h : Pm xs n) {i j : Nat} (hi : i < n) (hj : j < n) (e : pt xs i = pt xs j) : i = j := by
  refine nodup_at h.nodup (by rw [h.len]; exact hi) (by rw [h.len]; exact hj) ?_
  rw [(h.at hi).1, (h.at hj).1, e]
theorem nodup_le : ∀ (n : Nat) (l : List Int), l.Nodup → (∀ x ∈ l, 0 ≤ x ∧ x < (n : Int)) → l.length ≤ n
  | 0, l, _, h => by
    cases l with
    | nil => simp
    | cons x r => have := h x List.mem_cons_self; omega
  | n + 1, l, hd, h => by
    have h1 := nodup_le n (l.erase (n : Int)) (hd.erase _) fun x hx => by
      rw [hd.mem_erase_iff] at hx
      have := h x hx.2
      have := hx.1
      omega
    rw [List.length_erase] at h1
    split at h1 <;> omega
/-- a predicate from k on, r numbers -/
def allD (p : Nat → Bool) (k : Nat) : Nat → Bool
  | 0 => true
  | r + 1 => p k && allD p (k + 1) r
theorem allD_at {p : Nat → Bool} : ∀ {r k : Nat}, allD p k r = true → ∀ i, k ≤ i → i < k + r → p i = true
  | 0, k, _, i, h1, h2 => by omega
  | r + 1, k, h, i, h1, h2 => by
    rw [allD, Bool.and_eq_true] at h
    by_cases e : i = k
    · rw [e]; exact h.1
    · exact allD_at h.2 i (by omega) (by omega)
theorem allD_step {p : Nat → Bool} {k n : Nat} (h : k < n) : allD p k (n - k) = (p k && allD p (k + 1) (n - (k + 1))) := by
  obtain ⟨r, hr⟩ : ∃ r, n - k = r + 1 := ⟨n - k - 1, by omega⟩
  rw [hr, allD, show n - (k + 1) = r by omega]
/-- the orders of S, and of T, then S -/
def ok6 (s t : List Int) (i : Nat) : Bool := decide (pt s (pt s i) = i) && decide (pt s (pt t (pt s (pt t (pt s (pt t i))))) = i)
/-- a point joins the points met -/
def addP (ps : List Int) (j : Int) : List Int := if j ∈ ps then ps else ps ++ [j]
def metF (s t : List Int) : Nat → Nat → List Int → List Int
  | 0, _, ps => ps
  | f + 1, k, ps => if k < ps.length then metF s t f (k + 1) (addP (addP ps (s.getD (pt ps k) 0)) (t.getD (pt ps k) 0)) else ps
/-- the points met from a point -/
def met (s t : List Int) (i n : Nat) : List Int := metF s t (n + 1) 0 [(i : Int)]
def isA (s t : List Int) : Bool :=
  decide (1 ≤ s.length) && decide (s.length ≤ 72) && ord s s.length && ord t s.length && allD (ok6 s t) 0 s.length && decide ((met s t 0 s.length).length = s.length)
/-- different numbers below n -/
def PS (n : Nat) (ps : List Int) : Prop := ps.Nodup ∧ ∀ x ∈ ps, 0 ≤ x ∧ x < (n : Int)
theorem PS.le {n : Nat} {ps : List Int} (h : PS n ps) : ps.length ≤ n := nodup_le n ps h.1 h.2
theorem PS.b {n : Nat} {ps : List Int} (h : PS n ps) : Bd ps n := fun _ hi => h.2 _ (getD_mem hi)
theorem PS.add {n : Nat} {ps : List Int} (h : PS n ps) {j : Nat} (hj : j < n) : PS n (addP ps j) := by
  unfold addP
  split
  · exact h
  · rename_i hn
    refine ⟨List.nodup_append.2 ⟨h.1, by simp, fun a ha b hb => ?_⟩, fun x hx => ?_⟩
    · have := List.mem_singleton.1 hb
      rintro rfl
      exact hn (this ▸ ha)
    · rcases List.mem_append.1 hx with hx | hx
      · exact h.2 x hx
      · have := List.mem_singleton.1 hx
        omega
theorem PS.one {n i : Nat} (h : i < n) : PS n [(i : Int)] := ⟨by simp, fun x hx => by have := List.mem_singleton.1 hx; omega⟩
theorem addP_len (ps : List Int) (j : Int) : ps.length ≤ (addP ps j).length := by
  unfold addP
  split <;> simp
theorem metF_ps {s t : List Int} {n : Nat} (hs : Pm s n) (ht : Pm t n) : ∀ (f k : Nat) (ps : List Int), PS n ps → PS n (metF s t f k ps)
  | 0, _, _, h => h
  | f + 1, k, ps, h => by
    rw [metF]
    split
    · rename_i hk
      obtain ⟨e1, e2⟩ := h.b.at hk
      obtain ⟨a1, a2⟩ := hs.at e2
      obtain ⟨b1, b2⟩ := ht.at e2
      refine metF_ps hs ht f _ _ ?_
      rw [a1, b1]
      exact (h.add a2).add b2
    · exact h
theorem met_ps {s t : List Int} {n i : Nat} (hs : Pm s n) (ht : Pm t n) (hi : i < n) : PS n (met s t i n) := metF_ps hs ht _ _ _ (.one hi)
/-- what holds of an action -/
structure IsA (s t : List Int) (n : Nat) : Prop where
  n1 : 1 ≤ n
  n72 : n ≤ 72
  pS : Pm s n
  pT : Pm t n
  two : ∀ i, i < n → pt s (pt s i) = i
  six : ∀ i, i < n → pt s (pt t (pt s (pt t (pt s (pt t i))))) = i
  all : (met s t 0 n).length = n
theorem isA_is {s t : List Int} (h : isA s t = true) : IsA s t s.length := by
  simp only [isA, Bool.and_eq_true, decide_eq_true_eq] at h
  obtain ⟨⟨⟨⟨⟨h1, h2⟩, h3⟩, h4⟩, h5⟩, h6⟩ := h
  have h7 := allD_at h5
  refine ⟨h1, h2, ord_is h3, ord_is h4, fun i hi => ?_, fun i hi => ?_, h6⟩
  · have := h7 i (by omega) (by omega)
    rw [ok6, Bool.and_eq_true] at this
    exact of_decide_eq_true this.1
  · have := h7 i (by omega) (by omega)
    rw [ok6, Bool.and_eq_true] at this
    exact of_decide_eq_true this.2
/-- a list led along another, renumbered -/
def renF (p s : List Int) : Nat → List Int
  | 0 => List.replicate p.length 0
  | k + 1 => (renF p s k).set (pt p k) (p.getD (pt s k) 0)
def ren (p s : List Int) : List Int := renF p s p.length
theorem renF_len (p s : List Int) : ∀ k, (renF p s k).length = p.length
  | 0 => by simp [renF]
  | k + 1 => by rw [renF, List.length_set, renF_len p s k]
theorem ren_len (p s : List Int) : (ren p s).length = p.length := renF_len p s _
/-- the numbers of the points met, in their order -/
def numF (ms : List Int) (n : Nat) : Nat → List Int
  | 0 => List.replicate n 0
  | k + 1 => (numF ms n k).set (pt ms k) (k : Int)
def num (ms : List Int) (n : Nat) : List Int := numF ms n ms.length
theorem numF_len (ms : List Int) (n : Nat) : ∀ k, (numF ms n k).length = n
  | 0 => by simp [numF]
  | k + 1 => by rw [numF, List.length_set, numF_len ms n k]
theorem num_len (ms : List Int) (n : Nat) : (num ms n).length = n := numF_len ms n _
theorem getI_set {m : List Int} {i j : Nat} {x : Int} (hj : j < m.length) : (m.set j x).getD i 0 = if i = j then x else m.getD i 0 := by
  by_cases e : i = j
  · subst e; simp [List.getD, hj]
  · rw [if_neg e]; simp [List.getD, List.getElem?_set_ne (Ne.symm e)]
theorem numF_bd {ms : List Int} {n : Nat} (hm : PS n ms) (h1 : 1 ≤ n) : ∀ k, k ≤ ms.length → Bd (numF ms n k) n
  | 0, _ => fun i hi => by
    simp only [numF, List.length_replicate] at hi
    simp [numF, List.getD, hi]
    omega
  | k + 1, hk => fun i hi => by
    have := hm.le
    rw [numF_len] at hi
    rw [numF, getI_set (by rw [numF_len]; exact (hm.b.at (by omega)).2)]
    split
    · omega
    · exact numF_bd hm h1 k (by omega) i (by rw [numF_len]; exact hi)
theorem num_bd {ms : List Int} {n : Nat} (hm : PS n ms) (h1 : 1 ≤ n) : Bd (num ms n) n := numF_bd hm h1 _ (Nat.le_refl _)
/-- the form from a point -/
def frm (s t : List Int) (i n : Nat) (x : List Int) : List Int := ren (num (met s t i n) n) x
theorem frm_len (s t : List Int) (i n : Nat) (x : List Int) : (frm s t i n x).length = n := by rw [frm, ren_len, num_len]
theorem renF_bd {p s : List Int} {n : Nat} (hp : Bd p n) (hl : p.length = n) (hs : Bd s n) (hsl : s.length = n) (h1 : 1 ≤ n) : ∀ k, k ≤ n → Bd (renF p s k) n
  | 0, _ => fun i hi => by
    simp only [renF, List.length_replicate] at hi
    simp [renF, List.getD, hi]
    omega
  | k + 1, hk => fun i hi => by
    rw [renF_len] at hi
    rw [renF, getI_set (by rw [renF_len, hl]; exact (hp.at (by omega)).2)]
    split
    · have := (hs.at (i := k) (by omega)).2
      exact hp _ (by omega)
    · exact renF_bd hp hl hs hsl h1 k (by omega) i (by rw [renF_len]; exact hi)
theorem ren_bd {p s : List Int} {n : Nat} (hp : Bd p n) (hl : p.length = n) (hs : Bd s n) (hsl : s.length = n) (h1 : 1 ≤ n) : Bd (ren p s) n := renF_bd hp hl hs hsl h1 _ (by omega)
end Go.Proofs.YtdcomnnpnhinfaaDoor
