/- Permutations: orbits come back; steps till a number is reached; cycles by marks. Mathematics only. -/
import Derived.Test.YtfchfakkbdfajaaDoorAcM
namespace Go.Proofs.YtfchfakkbdfajaaDoor

def itr (t : List Int) : Nat → Nat → Nat
  | 0, j => j
  | k + 1, j => itr t k (pt t j)
theorem itr_succ (t : List Int) : ∀ (k j : Nat), itr t (k + 1) j = pt t (itr t k j)
  | 0, _ => rfl
  | k + 1, j => by rw [itr, itr_succ t k, itr]
theorem itr_add (t : List Int) : ∀ (a b j : Nat), itr t (a + b) j = itr t a (itr t b j)
  | a, 0, _ => rfl
  | a, b + 1, j => by rw [show a + (b + 1) = (a + b) + 1 by omega, itr, itr_add t a b, itr]
theorem itr_lt {t : List Int} {n : Nat} (ht : Pm t n) : ∀ (k : Nat) {j : Nat}, j < n → itr t k j < n
  | 0, _, h => h
  | k + 1, _, h => itr_lt ht k (ht.at h).2
theorem itr_inj {t : List Int} {n : Nat} (ht : Pm t n) : ∀ (k : Nat) {i j : Nat}, i < n → j < n → itr t k i = itr t k j → i = j
  | 0, _, _, _, _, e => e
  | k + 1, _, _, hi, hj, e => ht.inj hi hj (itr_inj ht k (ht.at hi).2 (ht.at hj).2 e)
/-- either the first k places of the way are different, or the way has come back -/
theorem way_or {t : List Int} {n i : Nat} (ht : Pm t n) (hi : i < n) : ∀ k : Nat, (((List.range k).map fun a => ((itr t a i : Nat) : Int)).Nodup) ∨ ∃ p, 1 ≤ p ∧ p < k ∧ itr t p i = i
  | 0 => .inl (by simp)
  | k + 1 => by
    rcases way_or ht hi k with h | ⟨p, h1, h2, h3⟩
    · by_cases e : ∃ a, a < k ∧ itr t a i = itr t k i
      · obtain ⟨a, ha, he⟩ := e
        refine .inr ⟨k - a, by omega, by omega, ?_⟩
        have h4 : itr t k i = itr t a (itr t (k - a) i) := by rw [← itr_add, show a + (k - a) = k by omega]
        exact (itr_inj ht a hi (itr_lt ht _ hi) (he.trans h4)).symm
      · refine .inl ?_
        rw [List.range_succ, List.map_append]
        refine List.nodup_append.2 ⟨h, by simp, fun a ha b hb => ?_⟩
        obtain ⟨c, hc, rfl⟩ := List.mem_map.1 ha
        simp only [List.map_cons, List.map_nil, List.mem_singleton] at hb
        subst hb
        intro he
        exact e ⟨c, List.mem_range.1 hc, by omega⟩
    · exact .inr ⟨p, h1, by omega, h3⟩
theorem way_back {t : List Int} {n i : Nat} (ht : Pm t n) (hi : i < n) : ∃ p, 1 ≤ p ∧ p ≤ n ∧ itr t p i = i := by
  rcases way_or ht hi (n + 1) with h | ⟨p, h1, h2, h3⟩
  · have := nodup_le n _ h fun x hx => by
      obtain ⟨c, _, rfl⟩ := List.mem_map.1 hx
      have := itr_lt ht c hi
      omega
    simp at this
    omega
  · exact ⟨p, h1, by omega, h3⟩
/-- steps from j until i is reached -/
def dst (t : List Int) (i : Nat) : Nat → Nat → Nat
  | 0, _ => 0
  | f + 1, j => if j = i then 0 else 1 + dst t i f (pt t j)
/-- i is reached from j in f steps or less -/
def Rch (t : List Int) (i f j : Nat) : Prop := ∃ a, a ≤ f ∧ itr t a j = i
theorem Rch.next {t : List Int} {i f j : Nat} (h : Rch t i (f + 1) j) (hj : ¬ j = i) : Rch t i f (pt t j) := by
  obtain ⟨a, h1, h2⟩ := h
  cases a with
  | zero => exact absurd h2 hj
  | succ a => exact ⟨a, by omega, h2⟩
theorem Rch.zero {t : List Int} {i j : Nat} (h : Rch t i 0 j) : j = i := by
  obtain ⟨a, h1, h2⟩ := h
  obtain rfl : a = 0 := by omega
  exact h2
theorem dst_le {t : List Int} {i : Nat} : ∀ (f m j : Nat), Rch t i f j → f ≤ m → dst t i m j ≤ f ∧ dst t i m j = dst t i f j
  | 0, m, j, h, _ => by
    have := h.zero
    subst this
    cases m <;> simp [dst]
  | f + 1, 0, j, _, h => by omega
  | f + 1, m + 1, j, h, hm => by
    by_cases e : j = i
    · simp [dst, e]
    · have := dst_le f m (pt t j) (h.next e) (by omega)
      rw [dst, if_neg e, dst, if_neg e]
      omega
theorem dst_step {t : List Int} {i f m j : Nat} (h : Rch t i f j) (hf : f ≤ m) (hj : ¬ j = i) : dst t i m j = 1 + dst t i m (pt t j) := by
  cases f with
  | zero => exact absurd h.zero hj
  | succ f =>
    have h1 := h.next hj
    obtain ⟨m, rfl⟩ : ∃ m', m = m' + 1 := ⟨m - 1, by omega⟩
    rw [dst, if_neg hj, (dst_le f m _ h1 (by omega)).2, (dst_le f (m + 1) _ h1 (by omega)).2]
/-- the way from j on till i is reached -/
def orb (t : List Int) (i : Nat) : Nat → Nat → List Int
  | 0, _ => []
  | f + 1, j => if j = i then [] else (j : Int) :: orb t i f (pt t j)
theorem orb_no {t : List Int} {i f : Nat} : orb t i f i = [] := by
  cases f
  · rfl
  · rw [orb, if_pos rfl]
theorem orb_yes {t : List Int} {i f j : Nat} (hj : ¬ j = i) : orb t i (f + 1) j = (j : Int) :: orb t i f (pt t j) := by rw [orb, if_neg hj]
theorem orb_len {t : List Int} {i : Nat} : ∀ (f j : Nat), Rch t i f j → (orb t i f j).length = dst t i f j
  | 0, _, _ => rfl
  | f + 1, j, h => by
    by_cases e : j = i
    · simp [orb, dst, e]
    · rw [orb, if_neg e, dst, if_neg e, List.length_cons, orb_len f _ (h.next e)]
      omega
theorem orb_at {t : List Int} {i : Nat} : ∀ (f j a : Nat), a < (orb t i f j).length → (orb t i f j).getD a 0 = (itr t a j : Int)
  | 0, j, a, h => by simp [orb] at h
  | f + 1, j, a, h => by
    rw [orb] at h ⊢
    split at h
    · simp at h
    · rename_i e
      rw [if_neg e]
      cases a with
      | zero => simp [itr]
      | succ a =>
        rw [List.getD_cons_succ, itr]
        exact orb_at f _ a (by simpa using h)
/-- a point's cycle -/
def cyc (t : List Int) (i n : Nat) : List Int := (i : Int) :: orb t i n (pt t i)
theorem rch_of {t : List Int} {n i : Nat} (ht : Pm t n) (hi : i < n) : Rch t i (n - 1) (pt t i) := by
  obtain ⟨p, h1, h2, h3⟩ := way_back ht hi
  obtain ⟨p, rfl⟩ : ∃ p', p = p' + 1 := ⟨p - 1, by omega⟩
  exact ⟨p, by omega, h3⟩
theorem cyc_at {t : List Int} {i n a : Nat} (h : a < (cyc t i n).length) : (cyc t i n).getD a 0 = (itr t a i : Int) := by
  cases a with
  | zero => simp [cyc, itr]
  | succ a =>
    rw [cyc, List.getD_cons_succ, itr]
    exact orb_at n _ a (by simpa [cyc] using h)
theorem cyc_len {t : List Int} {i n : Nat} (ht : Pm t n) (hi : i < n) : (cyc t i n).length = 1 + dst t i n (pt t i) ∧ (cyc t i n).length ≤ n := by
  have hr := rch_of ht hi
  have h1 : Rch t i n (pt t i) := by obtain ⟨a, h, e⟩ := hr; exact ⟨a, by omega, e⟩
  have h2 := orb_len n _ h1
  have h3 := (dst_le (n - 1) n _ hr (by omega)).1
  rw [cyc, List.length_cons, h2]
  omega
/-- the number that a list leads to j, below n -/
theorem back_ex {t : List Int} {n i : Nat} (ht : Pm t n) (hi : i < n) : ∃ j, j < n ∧ pt t j = i := by
  obtain ⟨p, h1, h2, h3⟩ := way_back ht hi
  obtain ⟨p, rfl⟩ : ∃ p', p = p' + 1 := ⟨p - 1, by omega⟩
  exact ⟨itr t p i, itr_lt ht p hi, by rw [← itr_succ]; exact h3⟩
/-- back: the place of a number -/
def bk (t : List Int) (i : Nat) : Nat → Nat
  | 0 => 0
  | k + 1 => if pt t k = i then k else bk t i k
theorem bk_is {t : List Int} {i : Nat} : ∀ {n j : Nat}, j < n → pt t j = i → pt t (bk t i n) = i ∧ bk t i n < n
  | 0, j, h, _ => by omega
  | n + 1, j, h, e => by
    rw [bk]
    split
    · rename_i h2; exact ⟨h2, by omega⟩
    · rename_i h2
      have : j < n := by rcases (show j < n ∨ j = n by omega) with h3 | rfl; exact h3; exact absurd e h2
      have := bk_is this e
      exact ⟨this.1, by omega⟩
theorem bk_lt {t : List Int} {n i : Nat} (ht : Pm t n) (hi : i < n) : pt t (bk t i n) = i ∧ bk t i n < n := by
  obtain ⟨j, h1, h2⟩ := back_ex ht hi
  exact bk_is h1 h2
theorem bk_un {t : List Int} {n i j : Nat} (ht : Pm t n) (hi : i < n) (hj : j < n) (e : pt t j = i) : j = bk t i n := by
  have := bk_lt ht hi
  exact ht.inj hj this.2 (by rw [e, this.1])
/-- marks: what a walk meets, and what it leaves -/
def cyB (t : List Int) : Nat → Nat → List Bool → List Int
  | 0, _, _ => []
  | f + 1, j, m => if m.getD j true = false then (j : Int) :: cyB t f (pt t j) (m.set j true) else []
def mkB (t : List Int) : Nat → Nat → List Bool → List Bool
  | 0, _, m => m
  | f + 1, j, m => if m.getD j true = false then mkB t f (pt t j) (m.set j true) else m
def cyQ (t : List Int) (n : Nat) : Nat → List Bool × List (List Int)
  | 0 => (List.replicate n false, [])
  | k + 1 => if (cyQ t n k).1.getD k true = false then (mkB t (n + 1) k (cyQ t n k).1, (cyQ t n k).2 ++ [cyB t (n + 1) k (cyQ t n k).1]) else cyQ t n k
/-- the marks that are still off -/
def offs : List Bool → Nat
  | [] => 0
  | b :: r => (if b then 0 else 1) + offs r
theorem offs_le : ∀ m : List Bool, offs m ≤ m.length
  | [] => Nat.le_refl _
  | b :: r => by have := offs_le r; simp only [offs, List.length_cons]; split <;> omega
theorem offs_set : ∀ {m : List Bool} {j : Nat}, m.getD j true = false → offs (m.set j true) + 1 = offs m
  | [], j, h => by simp [List.getD] at h
  | b :: r, 0, h => by
    simp [List.getD] at h
    subst h
    simp [offs]; omega
  | b :: r, j + 1, h => by
    have := offs_set (m := r) (j := j) (by simpa [List.getD] using h)
    simp only [List.set_cons_succ, offs]
    omega
theorem mkB_len (t : List Int) : ∀ (f j : Nat) (m : List Bool), (mkB t f j m).length = m.length
  | 0, _, _ => rfl
  | f + 1, j, m => by
    rw [mkB]
    split
    · rw [mkB_len t f, List.length_set]
    · rfl
theorem cyQ_len (t : List Int) (n : Nat) : ∀ k : Nat, (cyQ t n k).1.length = n ∧ (cyQ t n k).2.length ≤ k
  | 0 => by simp [cyQ]
  | k + 1 => by
    have := cyQ_len t n k
    rw [cyQ]
    split
    · simp only [mkB_len, List.length_append, List.length_cons, List.length_nil]
      omega
    · omega
theorem cyB_len (t : List Int) : ∀ (f j : Nat) (m : List Bool), (cyB t f j m).length + offs (mkB t f j m) = offs m
  | 0, _, _ => by simp [cyB, mkB]
  | f + 1, j, m => by
    rw [cyB, mkB]
    split
    · rename_i h
      have := cyB_len t f (pt t j) (m.set j true)
      have := offs_set h
      rw [List.length_cons]
      omega
    · simp
theorem cyB_no {t : List Int} {f j : Nat} {m : List Bool} (h : ¬ m.getD j true = false) : cyB t f j m = [] ∧ mkB t f j m = m := by
  cases f <;> simp only [cyB, mkB, if_neg h] <;> exact ⟨trivial, trivial⟩
theorem cyB_yes {t : List Int} {f j : Nat} {m : List Bool} (h : m.getD j true = false) : cyB t (f + 1) j m = (j : Int) :: cyB t f (pt t j) (m.set j true) ∧ mkB t (f + 1) j m = mkB t f (pt t j) (m.set j true) := by
  simp only [cyB, mkB, if_pos h]
  exact ⟨trivial, trivial⟩
end Go.Proofs.YtfchfakkbdfajaaDoor
