/- Lists of symbols and the relations of a level. No program. -/
import Derived.Test.YtejghidllochoaaDoorKu
import Derived.Test.YtejghidllochoaaDoorKep
namespace Go.Proofs.YtejghidllochoaaDoor
open Go.ChangeShapes Go.WideShapes Go.ChangeAt Go.RowKit

/-- one more at the place i -/
def bmp (l : List Int) (i : Nat) : List Int := l.set i (l.getD i 0 + 1)
theorem bmp_len (l : List Int) (i : Nat) : (bmp l i).length = l.length := by simp [bmp]
theorem bmp_get {l : List Int} {i j : Nat} (hi : i < l.length) : (bmp l i).getD j 0 = l.getD j 0 + if j = i then 1 else 0 := by
  unfold bmp
  by_cases e : j = i
  · subst e
    simp [List.getD, hi]
  · simp [List.getD, List.getElem?_set_ne (Ne.symm e), e]
/-- one more at each of the places ss behind o -/
def addS (l : List Int) (o : Nat) : List Nat → List Int
  | [] => l
  | s :: r => addS (bmp l (o + s)) o r
theorem addS_snoc (o s : Nat) : ∀ (r : List Nat) (l : List Int), addS l o (r ++ [s]) = bmp (addS l o r) (o + s)
  | [], _ => rfl
  | x :: r, l => addS_snoc o s r (bmp l (o + x))
theorem addS_len (o : Nat) : ∀ (ss : List Nat) (l : List Int), (addS l o ss).length = l.length
  | [], _ => rfl
  | s :: r, l => by rw [addS, addS_len o r, bmp_len]
theorem take_snocN {ss : List Nat} {k : Nat} (hk : k < ss.length) : ss.take (k + 1) = ss.take k ++ [ss.getD k 0] := by
  rw [List.take_add_one]
  simp [List.getD, List.getElem?_eq_getElem hk]
theorem addS_step {l : List Int} {o k : Nat} {ss : List Nat} (hk : k < ss.length) : addS l o (ss.take (k + 1)) = bmp (addS l o (ss.take k)) (o + ss.getD k 0) := by
  rw [take_snocN hk, addS_snoc]
theorem addS_bd {o : Nat} : ∀ (ss : List Nat) (l : List Int) (B : Int), (∀ q, 0 ≤ l.getD q 0 ∧ l.getD q 0 ≤ B) → (∀ s ∈ ss, o + s < l.length) → ∀ q, 0 ≤ (addS l o ss).getD q 0 ∧ (addS l o ss).getD q 0 ≤ B + ss.length
  | [], l, B, h, _, q => by have := h q; simp only [addS, List.length_nil]; omega
  | s :: r, l, B, h, hs, q => by
    have h1 := addS_bd r (bmp l (o + s)) (B + 1) (fun q => by
      rw [bmp_get (hs s (by simp))]
      have := h q
      split <;> omega) (fun x hx => by rw [bmp_len]; exact hs x (by simp [hx])) q
    rw [addS]
    simp only [List.length_cons]
    omega
def zer (N : Nat) : List Int := List.replicate N 0
theorem zer_get (N q : Nat) : (zer N).getD q 0 = 0 := by
  unfold zer
  by_cases h : q < N
  · simp [List.getD, h]
  · simp [List.getD, h]

/-- A flat list reads as rows of N numbers. -/
def RowsF (xs : List Int) (N M : Nat) (f : Nat → List Int) : Prop := ∀ j, j < M → ∀ i, i < N → xs.getD (j * N + i) 0 = (f j).getD i 0
theorem idx_row {N j i j' i' : Nat} (hi : i < N) (hi' : i' < N) (h : j * N + i = j' * N + i') : j = j' ∧ i = i' := by
  have h1 : (j * N + i) / N = j := by rw [Nat.mul_comm, Nat.mul_add_div (by omega), Nat.div_eq_of_lt hi]; omega
  have h2 : (j' * N + i') / N = j' := by rw [Nat.mul_comm, Nat.mul_add_div (by omega), Nat.div_eq_of_lt hi']; omega
  have e : j = j' := by rw [← h1, h, h2]
  subst e
  exact ⟨rfl, by omega⟩
theorem idx_lt {N M j i : Nat} (hj : j < M) (hi : i < N) : j * N + i < M * N := by
  have h1 : (j + 1) * N ≤ M * N := Nat.mul_le_mul_right N hj
  rw [Nat.add_mul] at h1
  omega
theorem RowsF.bmp {xs : List Int} {N M j s : Nat} {f : Nat → List Int} (h : RowsF xs N M f) (hl : xs.length = M * N) (hj : j < M) (hs : s < N) (hf : (f j).length = N) :
    RowsF (bmp xs (j * N + s)) N M (fun q => if q = j then Go.Proofs.YtejghidllochoaaDoor.bmp (f j) s else f q) := by
  intro a ha i hi
  rw [bmp_get (by rw [hl]; exact idx_lt hj hs), h a ha i hi]
  by_cases e : a = j
  · subst e
    simp only [if_true]
    rw [bmp_get (by rw [hf]; exact hs)]
    by_cases e2 : i = s
    · subst e2; simp
    · rw [if_neg (fun h => e2 (by omega)), if_neg e2]
  · rw [if_neg (fun h => e (idx_row hi hs h).1)]
    simp [e]
theorem RowsF.congr {xs : List Int} {N M : Nat} {f g : Nat → List Int} (h : RowsF xs N M f) (e : ∀ j, j < M → f j = g j) : RowsF xs N M g := fun j hj i hi => by rw [← e j hj]; exact h j hj i hi
theorem RowsF.addS {N M j : Nat} : ∀ (ss : List Nat) {xs : List Int} {f : Nat → List Int}, RowsF xs N M f → xs.length = M * N → j < M → (∀ s ∈ ss, s < N) → (f j).length = N →
    RowsF (addS xs (j * N) ss) N M (fun q => if q = j then Go.Proofs.YtejghidllochoaaDoor.addS (f j) 0 ss else f q)
  | [], xs, f, h, _, _, _, _ => h.congr fun q _ => by
    by_cases e : q = j
    · subst e; simp [Go.Proofs.YtejghidllochoaaDoor.addS]
    · simp [e]
  | s :: r, xs, f, h, hl, hj, hs, hf => by
    have h1 := h.bmp hl hj (hs s (by simp)) hf
    have h2 := RowsF.addS r h1 (by rw [bmp_len]; exact hl) hj (fun x hx => hs x (by simp [hx])) (by simp [bmp_len, hf])
    refine h2.congr fun q _ => ?_
    by_cases e : q = j
    · subst e
      simp [Go.Proofs.YtejghidllochoaaDoor.addS]
    · simp [e]

/-- where S, U and U U lead the coset i -/
def kS (n : Int) (i : Nat) : Nat := kOf n ((ln n).getD i (0, 0)).2 (-((ln n).getD i (0, 0)).1)
def kU (n : Int) (i : Nat) : Nat := kOf n (((ln n).getD i (0, 0)).1 + ((ln n).getD i (0, 0)).2) (-((ln n).getD i (0, 0)).1)
def kV (n : Int) (i : Nat) : Nat := kOf n ((ln n).getD i (0, 0)).2 (-((ln n).getD i (0, 0)).1 - ((ln n).getD i (0, 0)).2)
/-- the relations of a coset -/
def relS (n : Int) (N i : Nat) : List Int := addS (zer N) 0 [i, kS n i]
def relU (n : Int) (N i : Nat) : List Int := addS (zer N) 0 [i, kU n i, kV n i]
def rel (n : Int) (N j : Nat) : List Int := if j < N then relS n N j else relU n N (j - N)
theorem relS_len (n : Int) (N i : Nat) : (relS n N i).length = N := by rw [relS, addS_len, zer, List.length_replicate]
theorem relU_len (n : Int) (N i : Nat) : (relU n N i).length = N := by rw [relU, addS_len, zer, List.length_replicate]
theorem rel_len (n : Int) (N i : Nat) : (rel n N i).length = N := by unfold rel; split; exact relS_len _ _ _; exact relU_len _ _ _
theorem rel_bd (n : Int) (N i q : Nat) (h1 : ∀ i, i < N → kS n i < N ∧ kU n i < N ∧ kV n i < N) (hi : i < N + N) : 0 ≤ (rel n N i).getD q 0 ∧ (rel n N i).getD q 0 ≤ 3 := by
  have hz : ∀ q, 0 ≤ (zer N).getD q 0 ∧ (zer N).getD q 0 ≤ (0 : Int) := fun q => by rw [zer_get]; omega
  have hl : (zer N).length = N := by simp [zer]
  unfold rel
  split
  · have := addS_bd (o := 0) [i, kS n i] (zer N) 0 hz (fun s hs => by
      have := h1 i (by omega)
      rw [hl]
      simp at hs
      omega) q
    unfold relS
    simp only [List.length_cons, List.length_nil] at this
    omega
  · have := addS_bd (o := 0) [i - N, kU n (i - N), kV n (i - N)] (zer N) 0 hz (fun s hs => by
      have := h1 (i - N) (by omega)
      rw [hl]
      simp at hs
      omega) q
    unfold relU
    simp only [List.length_cons, List.length_nil] at this
    omega
theorem isP_neg {n c d : Int} (h : isP n c d = true) : isP n d (-c - d) = true := by
  unfold isP at *
  have e : Int.gcd d (-c - d) = Int.gcd c d := by
    rw [show -c - d = -(c + d) by omega, Int.gcd_neg, Int.gcd_comm]
    have := Int.gcd_add_self_right (m := d) (n := c)
    first
      | rw [Int.gcd_comm, this, Int.gcd_comm]
      | simp
  rw [e]
  exact h
theorem ln_isP {n : Int} (h1 : 1 ≤ n) {i : Nat} (hi : i < (ln n).length) : isP n ((ln n).getD i (0, 0)).1 ((ln n).getD i (0, 0)).2 = true := by
  obtain ⟨_, _, _, _, h⟩ := ln_at h1 hi
  unfold okP at h
  rw [Bool.and_eq_true] at h
  exact h.1
theorem kS_lt {n : Int} (h1 : 1 ≤ n) {i : Nat} (hi : i < (ln n).length) : kS n i < (ln n).length := (kOf_spec h1 (isP_S (ln_isP h1 hi))).1
theorem kU_lt {n : Int} (h1 : 1 ≤ n) {i : Nat} (hi : i < (ln n).length) : kU n i < (ln n).length := (kOf_spec h1 (isP_U (ln_isP h1 hi))).1
theorem kV_lt {n : Int} (h1 : 1 ≤ n) {i : Nat} (hi : i < (ln n).length) : kV n i < (ln n).length := (kOf_spec h1 (isP_neg (ln_isP h1 hi))).1
/-- U twice -/
theorem kU_kU {n : Int} (h1 : 1 ≤ n) {i : Nat} (hi : i < (ln n).length) : kU n (kU n i) = kV n i := by
  have h := kOf_led (n := n) (a := 1) (b := -1) (c := 1) (d := 0) h1 (isP_U (ln_isP h1 hi))
  unfold kU kV
  unfold kU at h
  generalize ((ln n).getD i (0, 0)).1 = c at *
  generalize ((ln n).getD i (0, 0)).2 = d at *
  have e1 : (c + d) * 1 + -c * 1 = d := by omega
  have e2 : (c + d) * -1 + -c * 0 = -c - d := by omega
  rw [e1, e2] at h
  rw [← h]
  congr 1 <;> omega
end Go.Proofs.YtejghidllochoaaDoor
