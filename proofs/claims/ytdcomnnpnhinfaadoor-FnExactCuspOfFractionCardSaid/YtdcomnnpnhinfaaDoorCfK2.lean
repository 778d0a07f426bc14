/- The number of a coset depends on two rests but for a unit; matrices lead cosets. No program. Cosets that T leads to each other have one cusp. Mathematics only. Rests by numbers up to 1000000000. Contracts of IsFraction. The model's second number below a fraction: an s with p s of the rest 1 by q. -/
import Derived.Test.YtdcomnnpnhinfaaDoorLed
import Derived.Test.YtdcomnnpnhinfaaDoorLnX
import Derived.Test.YtdcomnnpnhinfaaDoorKep
import Derived.Test.YtdcomnnpnhinfaaDoorMS
import Derived.Test.YtdcomnnpnhinfaaDoorLnS
import Derived.Laws.MakeOwn
import Derived.Test.YtdcomnnpnhinfaaDoorCfK1
import Derived.Test.YtdcomnnpnhinfaaDoorRest
import Derived.Test.YtdcomnnpnhinfaaDoorA
import Derived.Test.YtdcomnnpnhinfaaDoorLow
import Derived.Test.YtdcomnnpnhinfaaDoorNm
/- The number of a coset depends on two rests but for a unit; matrices lead cosets. No program. -/
namespace Go.Proofs.YtdcomnnpnhinfaaDoor
open Go.ChangeShapes Go.WideShapes Go.ChangeAt Go.RowKit

theorem bezN (a b : Nat) : ∃ s t : Int, s * a + t * b = (Nat.gcd a b : Int) := by
  induction a, b using Nat.gcd.induction with
  | H0 b => exact ⟨0, 1, by simp⟩
  | H1 a b ha ih =>
    obtain ⟨s, t, h⟩ := ih
    refine ⟨t - s * (b / a : Nat), s, ?_⟩
    rw [Nat.gcd_rec, ← h]
    have e : ((b % a : Nat) : Int) = b - a * (b / a : Nat) := by
      have := congrArg (fun n : Nat => (n : Int)) (Nat.div_add_mod b a)
      simp only [Int.natCast_add, Int.natCast_mul] at this
      omega
    rw [e]
    grind
theorem inv_unit {u n : Int} (h : Int.gcd u n = 1) : ∃ v, n ∣ u * v - 1 := by
  obtain ⟨s, t, h2⟩ := bezN u.natAbs n.natAbs
  have h3 : Nat.gcd u.natAbs n.natAbs = 1 := h
  rw [h3] at h2
  have hu : (u.natAbs : Int) = u ∨ (u.natAbs : Int) = -u := by omega
  have hn : (n.natAbs : Int) = n ∨ (n.natAbs : Int) = -n := by omega
  rcases hu with e | e <;> rcases hn with f | f <;> rw [e, f] at h2
  · exact ⟨s, -t, by grind⟩
  · exact ⟨s, t, by grind⟩
  · exact ⟨-s, -t, by grind⟩
  · exact ⟨-s, t, by grind⟩
theorem unit_inv {u v n : Int} (h : n ∣ u * v - 1) : Int.gcd v n = 1 := by
  have h1 : ((Int.gcd v n : Nat) : Int) ∣ v := Int.gcd_dvd_left _ _
  have h2 : ((Int.gcd v n : Nat) : Int) ∣ n := Int.gcd_dvd_right _ _
  have h4 : ((Int.gcd v n : Nat) : Int) ∣ 1 := by
    have h5 := Int.dvd_sub (Int.dvd_trans h1 (Int.dvd_mul_left u v)) (Int.dvd_trans h2 h)
    rwa [show u * v - (u * v - 1) = 1 by omega] at h5
  have := Int.eq_one_of_dvd_one (by omega) h4
  omega
theorem emod_of_dvd {n x y : Int} (h : n ∣ x - y) : x % n = y % n := by
  rw [Int.emod_eq_emod_iff_emod_sub_eq_zero]
  exact Int.emod_eq_zero_of_dvd h
theorem dvd_emod (n x : Int) : n ∣ x % n - x := by
  have := Int.mul_ediv_add_emod x n
  exact ⟨-(x / n), by rw [Int.mul_neg]; omega⟩
theorem unit_mul {u v n : Int} (hu : Int.gcd u n = 1) (hv : Int.gcd v n = 1) : Int.gcd (u * v) n = 1 := by
  have h1 : Nat.Coprime u.natAbs n.natAbs := hu
  have h2 : Nat.Coprime v.natAbs n.natAbs := hv
  show Nat.gcd (u * v).natAbs n.natAbs = 1
  rw [Int.natAbs_mul]
  exact Nat.Coprime.mul_left h1 h2
/-- the normal pair of a multiple by a unit -/
theorem nrm_same {n x y u : Int} (h1 : 1 ≤ n) (hx : 0 ≤ x ∧ x < n) (hy : 0 ≤ y ∧ y < n) (hu : Int.gcd u n = 1) : nrm n (u * x % n) (u * y % n) = nrm n x y := by
  have rx : 0 ≤ u * x % n ∧ u * x % n < n := ⟨Int.emod_nonneg _ (by omega), Int.emod_lt_of_pos _ (by omega)⟩
  have ry : 0 ≤ u * y % n ∧ u * y % n < n := ⟨Int.emod_nonneg _ (by omega), Int.emod_lt_of_pos _ (by omega)⟩
  have e : ∀ t z : Int, t * (u * z % n) % n = t * u * z % n := fun t z => by rw [Int.mul_emod, Int.emod_emod, ← Int.mul_emod, Int.mul_assoc]
  obtain ⟨t, ht, hq⟩ := nrm_unit h1 rx ry
  obtain ⟨s, hs, hp⟩ := nrm_unit h1 hx hy
  obtain ⟨v, hv⟩ := inv_unit hu
  have hvu := unit_inv hv
  have a1 := nrm_low h1 hx hy (unit_mul ht hu)
  have a2 := nrm_low h1 rx ry (unit_mul hs hvu)
  rw [e, e] at a2
  have e2 : ∀ z : Int, s * v * u * z % n = s * z % n := fun z => by
    refine emod_of_dvd ?_
    obtain ⟨q, hq⟩ := hv
    exact ⟨s * z * q, by grind⟩
  rw [e2, e2] at a2
  rw [e, e] at hq
  rw [hp] at a1 ⊢
  rw [hq] at a2 ⊢
  obtain ⟨b1, b2⟩ := lss2_anti a2 a1
  exact Prod.ext b1.symm b2.symm
theorem kOf_congr {n x y x' y' : Int} (h1 : 1 ≤ n) (hx : n ∣ x - x') (hy : n ∣ y - y') : kOf n x y = kOf n x' y' := by
  unfold kOf
  rw [rst_emod _ _ h1, rst_emod _ _ h1, rst_emod _ _ h1, rst_emod _ _ h1, emod_of_dvd hx, emod_of_dvd hy]
theorem kOf_unit {n x y u : Int} (h1 : 1 ≤ n) (hu : Int.gcd u n = 1) : kOf n (u * x) (u * y) = kOf n x y := by
  unfold kOf
  rw [rst_emod _ _ h1, rst_emod _ _ h1, rst_emod _ _ h1, rst_emod _ _ h1]
  have e : ∀ z : Int, u * z % n = u * (z % n) % n := fun z => by rw [Int.mul_emod u (z % n), Int.emod_emod, ← Int.mul_emod]
  rw [e x, e y, nrm_same h1 ⟨Int.emod_nonneg _ (by omega), Int.emod_lt_of_pos _ (by omega)⟩ ⟨Int.emod_nonneg _ (by omega), Int.emod_lt_of_pos _ (by omega)⟩ hu]
/-- A pair of the line is alike to the pair whose number it has. -/
theorem at_unit {n x y : Int} (h1 : 1 ≤ n) (hp : isP n x y = true) : ∃ u, Int.gcd u n = 1 ∧ n ∣ ((ln n).getD (kOf n x y) (0, 0)).1 - u * x ∧ n ∣ ((ln n).getD (kOf n x y) (0, 0)).2 - u * y := by
  obtain ⟨_, h2⟩ := kOf_spec h1 hp
  obtain ⟨u, hu, h3⟩ := nrm_unit h1 (rst_bd (x := x) h1) (rst_bd (x := y) h1)
  rw [h2, h3, rst_emod _ _ h1, rst_emod _ _ h1]
  have e : ∀ z : Int, n ∣ u * (z % n) % n - u * z := fun z => by
    have a := dvd_emod n (u * (z % n))
    have b := Int.dvd_mul_of_dvd_right (b := u) (dvd_emod n z)
    have := Int.dvd_add a b
    rwa [show u * (z % n) % n - u * (z % n) + u * (z % n - z) = u * (z % n) % n - u * z by rw [Int.mul_sub]; omega] at this
  exact ⟨u, hu, e x, e y⟩
/-- Where a matrix leads the coset of a pair. -/
theorem kOf_led {n x y a b c d : Int} (h1 : 1 ≤ n) (hp : isP n x y = true) :
    kOf n (((ln n).getD (kOf n x y) (0, 0)).1 * a + ((ln n).getD (kOf n x y) (0, 0)).2 * c) (((ln n).getD (kOf n x y) (0, 0)).1 * b + ((ln n).getD (kOf n x y) (0, 0)).2 * d) = kOf n (x * a + y * c) (x * b + y * d) := by
  obtain ⟨u, hu, ⟨q, hq⟩, ⟨r, hr⟩⟩ := at_unit h1 hp
  rw [← kOf_unit (x := x * a + y * c) (y := x * b + y * d) h1 hu]
  refine kOf_congr h1 ⟨q * a + r * c, ?_⟩ ⟨q * b + r * d, ?_⟩ <;> grind
end Go.Proofs.YtdcomnnpnhinfaaDoor
/- Lists of symbols and the relations of a level. No program. -/
namespace Go.Proofs.YtdcomnnpnhinfaaDoor
open Go.ChangeShapes Go.WideShapes Go.ChangeAt Go.RowKit

/-- one more at the place i -/
def bmp (l : List Int) (i : Nat) : List Int := l.set i (l.getD i 0 + 1)
theorem bmp_len (l : List Int) (i : Nat) : (bmp l i).length = l.length := by simp [bmp]
theorem bmp_get {l : List Int} {i j : Nat} (hi : i < l.length) : (bmp l i).getD j 0 = l.getD j 0 + if j = i then 1 else 0 := by
  unfold bmp
  by_cases e : j = i
  · subst e
    simp [List.getD, hi]
  · simp [List.getD, List.getElem?_set_ne (Ne.symm e), e]
/-- one more at each of the places ss behind o -/
def addS (l : List Int) (o : Nat) : List Nat → List Int
  | [] => l
  | s :: r => addS (bmp l (o + s)) o r
theorem addS_snoc (o s : Nat) : ∀ (r : List Nat) (l : List Int), addS l o (r ++ [s]) = bmp (addS l o r) (o + s)
  | [], _ => rfl
  | x :: r, l => addS_snoc o s r (bmp l (o + x))
theorem addS_len (o : Nat) : ∀ (ss : List Nat) (l : List Int), (addS l o ss).length = l.length
  | [], _ => rfl
  | s :: r, l => by rw [addS, addS_len o r, bmp_len]
theorem take_snocN {ss : List Nat} {k : Nat} (hk : k < ss.length) : ss.take (k + 1) = ss.take k ++ [ss.getD k 0] := by
  rw [List.take_add_one]
  simp [List.getD, List.getElem?_eq_getElem hk]
theorem addS_step {l : List Int} {o k : Nat} {ss : List Nat} (hk : k < ss.length) : addS l o (ss.take (k + 1)) = bmp (addS l o (ss.take k)) (o + ss.getD k 0) := by
  rw [take_snocN hk, addS_snoc]
theorem addS_bd {o : Nat} : ∀ (ss : List Nat) (l : List Int) (B : Int), (∀ q, 0 ≤ l.getD q 0 ∧ l.getD q 0 ≤ B) → (∀ s ∈ ss, o + s < l.length) → ∀ q, 0 ≤ (addS l o ss).getD q 0 ∧ (addS l o ss).getD q 0 ≤ B + ss.length
  | [], l, B, h, _, q => by have := h q; simp only [addS, List.length_nil]; omega
  | s :: r, l, B, h, hs, q => by
    have h1 := addS_bd r (bmp l (o + s)) (B + 1) (fun q => by
      rw [bmp_get (hs s (by simp))]
      have := h q
      split <;> omega) (fun x hx => by rw [bmp_len]; exact hs x (by simp [hx])) q
    rw [addS]
    simp only [List.length_cons]
    omega
def zer (N : Nat) : List Int := List.replicate N 0
theorem zer_get (N q : Nat) : (zer N).getD q 0 = 0 := by
  unfold zer
  by_cases h : q < N
  · simp [List.getD, h]
  · simp [List.getD, h]

/-- A flat list reads as rows of N numbers. -/
def RowsF (xs : List Int) (N M : Nat) (f : Nat → List Int) : Prop := ∀ j, j < M → ∀ i, i < N → xs.getD (j * N + i) 0 = (f j).getD i 0
theorem idx_row {N j i j' i' : Nat} (hi : i < N) (hi' : i' < N) (h : j * N + i = j' * N + i') : j = j' ∧ i = i' := by
  have h1 : (j * N + i) / N = j := by rw [Nat.mul_comm, Nat.mul_add_div (by omega), Nat.div_eq_of_lt hi]; omega
  have h2 : (j' * N + i') / N = j' := by rw [Nat.mul_comm, Nat.mul_add_div (by omega), Nat.div_eq_of_lt hi']; omega
  have e : j = j' := by rw [← h1, h, h2]
  subst e
  exact ⟨rfl, by omega⟩
theorem idx_lt {N M j i : Nat} (hj : j < M) (hi : i < N) : j * N + i < M * N := by
  have h1 : (j + 1) * N ≤ M * N := Nat.mul_le_mul_right N hj
  rw [Nat.add_mul] at h1
  omega
theorem RowsF.bmp {xs : List Int} {N M j s : Nat} {f : Nat → List Int} (h : RowsF xs N M f) (hl : xs.length = M * N) (hj : j < M) (hs : s < N) (hf : (f j).length = N) :
    RowsF (bmp xs (j * N + s)) N M (fun q => if q = j then Go.Proofs.YtdcomnnpnhinfaaDoor.bmp (f j) s else f q) := by
  intro a ha i hi
  rw [bmp_get (by rw [hl]; exact idx_lt hj hs), h a ha i hi]
  by_cases e : a = j
  · subst e
    simp only [if_true]
    rw [bmp_get (by rw [hf]; exact hs)]
    by_cases e2 : i = s
    · subst e2; simp
    · rw [if_neg (fun h => e2 (by omega)), if_neg e2]
  · rw [if_neg (fun h => e (idx_row hi hs h).1)]
    simp [e]
theorem RowsF.congr {xs : List Int} {N M : Nat} {f g : Nat → List Int} (h : RowsF xs N M f) (e : ∀ j, j < M → f j = g j) : RowsF xs N M g := fun j hj i hi => by rw [← e j hj]; exact h j hj i hi
theorem RowsF.addS {N M j : Nat} : ∀ (ss : List Nat) {xs : List Int} {f : Nat → List Int}, RowsF xs N M f → xs.length = M * N → j < M → (∀ s ∈ ss, s < N) → (f j).length = N →
    RowsF (addS xs (j * N) ss) N M (fun q => if q = j then Go.Proofs.YtdcomnnpnhinfaaDoor.addS (f j) 0 ss else f q)
  | [], xs, f, h, _, _, _, _ => h.congr fun q _ => by
    by_cases e : q = j
    · subst e; simp [Go.Proofs.YtdcomnnpnhinfaaDoor.addS]
    · simp [e]
  | s :: r, xs, f, h, hl, hj, hs, hf => by
    have h1 := h.bmp hl hj (hs s (by simp)) hf
    have h2 := RowsF.addS r h1 (by rw [bmp_len]; exact hl) hj (fun x hx => hs x (by simp [hx])) (by simp [bmp_len, hf])
    refine h2.congr fun q _ => ?_
    by_cases e : q = j
    · subst e
      simp [Go.Proofs.YtdcomnnpnhinfaaDoor.addS]
    · simp [e]

/-- where S, U and U U lead the coset i -/
def kS (n : Int) (i : Nat) : Nat := kOf n ((ln n).getD i (0, 0)).2 (-((ln n).getD i (0, 0)).1)
def kU (n : Int) (i : Nat) : Nat := kOf n (((ln n).getD i (0, 0)).1 + ((ln n).getD i (0, 0)).2) (-((ln n).getD i (0, 0)).1)
def kV (n : Int) (i : Nat) : Nat := kOf n ((ln n).getD i (0, 0)).2 (-((ln n).getD i (0, 0)).1 - ((ln n).getD i (0, 0)).2)
/-- the relations of a coset -/
def relS (n : Int) (N i : Nat) : List Int := addS (zer N) 0 [i, kS n i]
def relU (n : Int) (N i : Nat) : List Int := addS (zer N) 0 [i, kU n i, kV n i]
def rel (n : Int) (N j : Nat) : List Int := if j < N then relS n N j else relU n N (j - N)
theorem relS_len (n : Int) (N i : Nat) : (relS n N i).length = N := by rw [relS, addS_len, zer, List.length_replicate]
theorem relU_len (n : Int) (N i : Nat) : (relU n N i).length = N := by rw [relU, addS_len, zer, List.length_replicate]
theorem rel_len (n : Int) (N i : Nat) : (rel n N i).length = N := by unfold rel; split; exact relS_len _ _ _; exact relU_len _ _ _
theorem rel_bd (n : Int) (N i q : Nat) (h1 : ∀ i, i < N → kS n i < N ∧ kU n i < N ∧ kV n i < N) (hi : i < N + N) : 0 ≤ (rel n N i).getD q 0 ∧ (rel n N i).getD q 0 ≤ 3 := by
  have hz : ∀ q, 0 ≤ (zer N).getD q 0 ∧ (zer N).getD q 0 ≤ (0 : Int) := fun q => by rw [zer_get]; omega
  have hl : (zer N).length = N := by simp [zer]
  unfold rel
  split
  · have := addS_bd (o := 0) [i, kS n i] (zer N) 0 hz (fun s hs => by
      have := h1 i (by omega)
      rw [hl]
      simp at hs
      omega) q
    unfold relS
    simp only [List.length_cons, List.length_nil] at this
    omega
  · have := addS_bd (o := 0) [i - N, kU n (i - N), kV n (i - N)] (zer N) 0 hz (fun s hs => by
      have := h1 (i - N) (by omega)
      rw [hl]
      simp at hs
      omega) q
    unfold relU
    simp only [List.length_cons, List.length_nil] at this
    omega
theorem isP_neg {n c d : Int} (h : isP n c d = true) : isP n d (-c - d) = true := by
  unfold isP at *
  have e : Int.gcd d (-c - d) = Int.gcd c d := by
    rw [show -c - d = -(c + d) by omega, Int.gcd_neg, Int.gcd_comm]
    have := Int.gcd_add_self_right (m := d) (n := c)
    first
      | rw [Int.gcd_comm, this, Int.gcd_comm]
      | simp
  rw [e]
  exact h
theorem ln_isP {n : Int} (h1 : 1 ≤ n) {i : Nat} (hi : i < (ln n).length) : isP n ((ln n).getD i (0, 0)).1 ((ln n).getD i (0, 0)).2 = true := by
  obtain ⟨_, _, _, _, h⟩ := ln_at h1 hi
  unfold okP at h
  rw [Bool.and_eq_true] at h
  exact h.1
theorem kS_lt {n : Int} (h1 : 1 ≤ n) {i : Nat} (hi : i < (ln n).length) : kS n i < (ln n).length := (kOf_spec h1 (isP_S (ln_isP h1 hi))).1
theorem kU_lt {n : Int} (h1 : 1 ≤ n) {i : Nat} (hi : i < (ln n).length) : kU n i < (ln n).length := (kOf_spec h1 (isP_U (ln_isP h1 hi))).1
theorem kV_lt {n : Int} (h1 : 1 ≤ n) {i : Nat} (hi : i < (ln n).length) : kV n i < (ln n).length := (kOf_spec h1 (isP_neg (ln_isP h1 hi))).1
/-- U twice -/
theorem kU_kU {n : Int} (h1 : 1 ≤ n) {i : Nat} (hi : i < (ln n).length) : kU n (kU n i) = kV n i := by
  have h := kOf_led (n := n) (a := 1) (b := -1) (c := 1) (d := 0) h1 (isP_U (ln_isP h1 hi))
  unfold kU kV
  unfold kU at h
  generalize ((ln n).getD i (0, 0)).1 = c at *
  generalize ((ln n).getD i (0, 0)).2 = d at *
  have e1 : (c + d) * 1 + -c * 1 = d := by omega
  have e2 : (c + d) * -1 + -c * 0 = -c - d := by omega
  rw [e1, e2] at h
  rw [← h]
  congr 1 <;> omega
end Go.Proofs.YtdcomnnpnhinfaaDoor
/- impl.addSymbols: contract. -/
namespace Go.Proofs.YtdcomnnpnhinfaaDoor
open Go.ChangeShapes Go.WideShapes Go.ChangeAt Go.RowKit

theorem mem_at {ss : List Nat} {k : Nat} (hk : k < ss.length) : ss.getD k 0 ∈ ss := by
  simp only [List.getD, List.getElem?_eq_getElem hk, Option.getD_some]
  exact List.getElem_mem hk
end Go.Proofs.YtdcomnnpnhinfaaDoor
/- Rows that are cut from one list. -/
namespace Go.Proofs.YtdcomnnpnhinfaaDoor
open Go.ChangeShapes Go.WideShapes Go.ChangeAt Go.RowKit

theorem madeCells_one (v : Value) (n : Nat) (hv : v.cells = #[v]) : madeCells v.cells ((n : Int).toNat * 1) = Array.replicate n v := by
  apply Array.ext
  · simp [size_madeCells]
  · intro i h1 h2
    simp [madeCells, hv, Nat.mod_one]
theorem made64 (n : Nat) (hn : n ≤ 1048576) (w : World) : (Instr.makeSlice 22 (.int .i64 n) (.int .i64 n)).run Tryd.prog w =
    .ok (.slice (some ⟨w.heap.size, 0, none⟩) n n) (w.alloc (.cells (Array.replicate n (.int .i64 0)) 2)) := by
  obtain ⟨i0, hi, hz0, hz1, hz2⟩ := info_parts info_i64
  have h := run_make (P := Tryd.prog) (w := w) 22 2 i0 (.int .i64 0) Tryd.underlying22 hi hz0 .i64 .i64 n n (by omega) (Int.le_refl _) (by rw [hz2]; omega) (by omega)
  rw [h, hz1, madeCells_one _ n rfl]
  simp
theorem madeRow (m n : Nat) (hm : m ≤ n) (hn : n ≤ 1048576) (w : World) : (Instr.makeSlice 49 (.int .i64 m) (.int .i64 n)).run Tryd.prog w =
    .ok (.slice (some ⟨w.heap.size, 0, none⟩) m n) (w.alloc (.cells (Array.replicate n rowZ) 22)) := by
  obtain ⟨i0, hi, hz0, hz1, hz2⟩ := info_parts info_row
  have h := run_make (P := Tryd.prog) (w := w) 49 22 i0 rowZ Tryd.underlying49 hi hz0 .i64 .i64 m n (by omega) (by omega) (by rw [hz2]; omega) (by omega)
  rw [h, hz1, madeCells_one _ n rfl]
  simp
theorem made0 (n : Nat) (hn : n ≤ 1048576) (w : World) : (Instr.makeSlice 49 (.int .i64 0) (.int .i64 n)).run Tryd.prog w =
    .ok (.slice (some ⟨w.heap.size, 0, none⟩) 0 n) (w.alloc (.cells (Array.replicate n rowZ) 22)) := madeRow 0 n (by omega) hn w
theorem Gr.zer {w : World} {L g : Nat} (hg : w.heap.size = g) (hL : L ≤ g) (n : Nat) (hn : n ≤ 1048576) : Gr (w.alloc (.cells (Array.replicate n (.int .i64 0)) 2)) L (.slice (some ⟨g, 0, none⟩) n n) (zer n) := by
  subst hg
  have h := World.ownsRow_lit (e := 2) (size := 1) (base := L) w (Array.replicate n (Value.int .i64 0)) n hL (by unfold maxLen; omega) (by simp)
  unfold Gr
  have e1 : (Go.Proofs.YtdcomnnpnhinfaaDoor.zer n).length = n := by simp [Go.Proofs.YtdcomnnpnhinfaaDoor.zer]
  rw [e1]
  have e2 : (Go.Proofs.YtdcomnnpnhinfaaDoor.zer n).map (fun x => (.int .i64 x)) = (Array.replicate n (Value.int .i64 0)).toList := by simp [Go.Proofs.YtdcomnnpnhinfaaDoor.zer]
  rw [e2]
  exact h

def rowV (g N k : Nat) : Value := .slice (some ⟨g, k * N, none⟩) N N
def rowVs (g N M : Nat) : List Value := (List.range M).map (rowV g N)
theorem rowVs_len (g N M : Nat) : (rowVs g N M).length = M := by simp [rowVs]
theorem rowVs_at {g N M k : Nat} (h : k < M) : (rowVs g N M)[k]? = some (rowV g N k) := by simp [rowVs, h]
theorem rowVs_snoc (g N M : Nat) : rowVs g N (M + 1) = rowVs g N M ++ [rowV g N M] := by simp [rowVs, List.range_succ]
/-- The slice v has M rows of N numbers each, cut from the list in block g, which reads as xs. -/
structure Flat (w : World) (L : Nat) (v : Value) (g N M : Nat) (xs : List Int) : Prop where
  rows : w.ownsRow L 22 1 v M (rowVs g N M)
  flat : Gr w L (.slice (some ⟨g, 0, none⟩) (M * N) (M * N)) xs
  len : xs.length = M * N
theorem Flat.own {w w' : World} {L g N M : Nat} {v : Value} {xs : List Int} (h : Flat w L v g N M xs) (hb : Below w.heap.size w w') : Flat w' L v g N M xs :=
  ⟨kept_none h.rows (grow_below hb), h.flat.own hb, h.len⟩
theorem Flat.drew {w : World} {L g N M : Nat} {v : Value} {xs : List Int} (h : Flat w L v g N M xs) : Flat w.drew L v g N M xs := ⟨h.rows, h.flat, h.len⟩
theorem Flat.put {w w' : World} {L g N M : Nat} {v : Value} {xs ys : List Int} (h : Flat w L v g N M xs) (hg : w.grownBy w' (some g)) (hy : Gr w' L (.slice (some ⟨g, 0, none⟩) (M * N) (M * N)) ys) (hl : ys.length = M * N) : Flat w' L v g N M ys :=
  ⟨kept_apart types_ss h.rows h.flat (by simpa [Value.ownBlock] using hg), hy, hl⟩
theorem Flat.shape {w : World} {L g N M : Nat} {v : Value} {xs : List Int} (h : Flat w L v g N M xs) (hM : 0 < M) : ∃ h0 cap, v = .slice (some ⟨h0, 0, none⟩) M cap ∧ L ≤ h0 ∧ h0 < w.heap.size ∧ h0 ≠ g ∧ ∀ k, k < M → w.cell? ⟨h0, k, none⟩ = some (rowV g N k) := by
  have hr := h.rows
  obtain ⟨hl, ⟨rfl, h0⟩ | ⟨b, cap, cur, rfl, h1, h2, _⟩⟩ := h.rows
  · omega
  · refine ⟨b, cap, rfl, h1, (Array.getElem?_eq_some_iff.1 h2).1, ?_, fun k hk => ?_⟩
    · exact fun e => own_apart types_ss hr h.flat rfl (by rw [e]; rfl)
    · have := hr.cells rfl k (rowV g N k) (rowVs_at hk)
      rwa [add0] at this
theorem Flat.cells {w : World} {L g N M : Nat} {v : Value} {xs : List Int} (h : Flat w L v g N M xs) (hT : 0 < M * N) : L ≤ g ∧ g < w.heap.size ∧ ∀ q, q < M * N → w.cell? ⟨g, q, none⟩ = some (.int .i64 (xs.getD q 0)) ∧ w.frozen? ⟨g, q, none⟩ = false := by
  obtain ⟨g', e, h1, h2, h3⟩ := h.flat.cellsZ hT
  injection e with e
  injection e with e
  subst e
  exact ⟨h1, h2, h3⟩

/-- 'rows = append(rows, row)': the rows as values. -/
theorem appRow {ops : Array Oper} {rest : List Oper} {o : Oper} {a : Act} {Q : Exit → Act → World → Prop} (hgd : o.guard = none) (s x : Operand)
    (ho : o.op = .call { callee := .builtin .append, args := #[s, x], argTypes := #[49, 49] })
    (L : Nat) (w : World) (v : Value) (n : Nat) (vs : List Value) (r : Value) (hs : a.eval s = v) (hown : w.ownsRow L 22 1 v n vs)
    (h1c : r.oneCell' = true) (g : Nat) (hx : a.eval x = .slice (some ⟨g, 0, none⟩) 1 1) (hg : w.heap.size = g) (hlen : n ≤ 1000000) (hL : L ≤ w.heap.size)
    (h : ∀ v' w', w'.ownsRow L 22 1 v' (n + 1) (vs ++ [r]) → (w.alloc (.cells #[r] 22)).grownBy w' v.ownBlock → Below L w w' → wpList Tryd.prog ops Q rest (a.put o.dst v') w') : wpList Tryd.prog ops Q (o :: rest) a (w.alloc (.cells #[r] 22)) := by
  obtain ⟨i0, hi, hz0, hz1, hz2⟩ := info_parts info_row
  subst hg
  refine wpList_append_own _ hgd s x 49 ho L 22 i0 (.slice none 0 0) 1 24 Tryd.underlying49 hi hz0 hz1 hz2 rfl (by decide) v n _ hs (World.ownsRow.alloc hown _) ⟨w.heap.size, 0, none⟩ 1 1 [r] hx rfl ?_ ?_ ?_ ?_ ?_ ?_
  · intro j u hj
    match j, hj with
    | 0, hj => simp at hj; subst hj; simp [Addr.add]
  · intro u hu; simp at hu; subst hu; exact h1c
  · unfold maxLen; omega
  · omega
  · simp; omega
  · intro v' w' hown' hgrow _
    have hb : Below L w (w.alloc (.cells #[r] 22)) := (Below.refl L w).alloc hL _
    exact h v' w' hown' hgrow (hb.grown hgrow (by simp; omega) (fun j hj => (hown.lt j hj).1))
theorem slice3 (g T a b N : Nat) (h1 : a < b) (h2 : b ≤ T) (hN : b - a = N) (w : World) : Sem.run Tryd.prog (Instr.slice 22 (.slice (some ⟨g, 0, none⟩) T T) (some (.int .i64 (a : Int))) (some (.int .i64 (b : Int))) (some (.int .i64 (b : Int)))) w = .ok (.slice (some ⟨g, a, none⟩) N N) w := by
  have h3 : a ≤ b := by omega
  have h4 : b ≠ a := by omega
  simp [Instr.slice, Instr.sliceBounds, Instr.sliceBound, asIntOf, go_sem, h2, h3, h4, hN]
theorem row_made {w : World} {L g n : Nat} (hg : w.heap.size = g) (hL : L ≤ g) (hn : n ≤ 1000000) : (w.alloc (.cells (Array.replicate n rowZ) 22)).ownsRow L 22 1 (.slice (some ⟨g, 0, none⟩) 0 n) 0 [] := by
  subst hg
  exact World.ownsRow_made w _ n hL (by unfold maxLen; omega) (by simp)
theorem row_shape {w : World} {L n : Nat} {v : Value} {vs : List Value} {t : TypeId} (h : w.ownsRow L t 1 v n vs) : ∃ ad cap, v = .slice ad n cap := by
  obtain ⟨_, ⟨rfl, h0⟩ | ⟨g, cap, cur, rfl, _⟩⟩ := h
  · exact ⟨none, 0, by rw [h0]⟩
  · exact ⟨_, cap, rfl⟩

end Go.Proofs.YtdcomnnpnhinfaaDoor
/- Cosets that T leads to each other have one cusp. Mathematics only. -/
namespace Go.Proofs.YtdcomnnpnhinfaaDoor
open Go.ChangeShapes Go.WideShapes Go.ChangeAt Go.RowKit

theorem isP_add {n x y : Int} (h : isP n x y = true) (t : Int) : isP n x (y + t * x) = true := by
  unfold isP at *
  rw [show Int.gcd x (y + t * x) = Int.gcd x y by rw [Int.mul_comm]; simp]
  exact h
/-- T leads the coset of x, y to that of x, x + y -/
theorem nxT_kOf {n x y : Int} (h1 : 1 ≤ n) (hp : isP n x y = true) : nxT n (kOf n x y) = kOf n x (y + x) := by
  have h := kOf_led (n := n) (x := x) (y := y) (a := 1) (b := 1) (c := 0) (d := 1) h1 hp
  unfold nxT
  have e1 : ∀ p q : Int, p * 1 + q * 0 = p := fun p q => by omega
  have e2 : ∀ p q : Int, p * 1 + q * 1 = p + q := fun p q => by omega
  rw [e1, e2, e1, e2] at h
  rw [h, Int.add_comm x y]
/-- what is marked is closed under T, and so is what is not, along a walk's beginning -/
def ClT (n : Int) (o : List Int) : Prop := ∀ j, j < (ln n).length → 0 ≤ o.getD j 0 → o.getD (nxT n j) 0 = o.getD j 0
/-- the pair of a coset is a pair -/
theorem at_isP {n : Int} (h1 : 1 ≤ n) {j : Nat} (hj : j < (ln n).length) : isP n ((ln n).getD j (0, 0)).1 ((ln n).getD j (0, 0)).2 = true ∧ kOf n ((ln n).getD j (0, 0)).1 ((ln n).getD j (0, 0)).2 = j := by
  have hm : (ln n).getD j (0, 0) ∈ ln n := by
    simp only [List.getD, List.getElem?_eq_getElem hj, Option.getD_some]
    exact List.getElem_mem hj
  have hok := (lnL_mem hm).2.2.2.2
  have hpp : isP n ((ln n).getD j (0, 0)).1 ((ln n).getD j (0, 0)).2 = true := by
    unfold okP at hok
    simp only [Bool.and_eq_true] at hok
    exact hok.1
  refine ⟨hpp, ?_⟩
  obtain ⟨m1, m2, m3, m4, _⟩ := lnL_mem hm
  have hb : ((ln n).getD j (0, 0)).1 < n := by omega
  have r1 : rst ((ln n).getD j (0, 0)).1 n = ((ln n).getD j (0, 0)).1 := by rw [rst_emod _ _ h1]; exact Int.emod_eq_of_lt m1 hb
  have r2 : rst ((ln n).getD j (0, 0)).2 n = ((ln n).getD j (0, 0)).2 := by rw [rst_emod _ _ h1]; exact Int.emod_eq_of_lt m3 (by omega)
  have e : nrm n ((ln n).getD j (0, 0)).1 ((ln n).getD j (0, 0)).2 = (ln n).getD j (0, 0) := by
    unfold okP at hok
    simp only [Bool.and_eq_true, decide_eq_true_eq] at hok
    exact hok.2
  unfold kOf
  rw [r1, r2, e]
  have e2 : (ln n).getD j (0, 0) = (ln n)[j] := by simp [List.getD, List.getElem?_eq_getElem hj]
  rw [e2]
  exact List.Nodup.idxOf_getElem (ln_nodup n) j hj
def itT (n : Int) : Nat → Nat → Nat
  | 0, j => j
  | t + 1, j => itT n t (nxT n j)
theorem itT_kOf {n x : Int} (h1 : 1 ≤ n) : ∀ (t : Nat) {y : Int}, isP n x y = true → itT n t (kOf n x y) = kOf n x (y + t * x)
  | 0, y, _ => by rw [itT]; congr 1; simp
  | t + 1, y, h => by
    rw [itT, nxT_kOf h1 h, itT_kOf h1 t (by have := isP_add h 1; rwa [Int.one_mul] at this)]
    congr 1
    have : ((t + 1 : Nat) : Int) * x = (t : Int) * x + x := by rw [Int.natCast_succ, Int.add_mul, Int.one_mul]
    omega
/-- n steps lead back -/
theorem itT_back {n : Int} (h1 : 1 ≤ n) {j : Nat} (hj : j < (ln n).length) : itT n n.toNat j = j := by
  obtain ⟨hp, e⟩ := at_isP h1 hj
  generalize ((ln n).getD j (0, 0)).1 = x at *
  generalize ((ln n).getD j (0, 0)).2 = y at *
  rw [← e, itT_kOf h1 _ hp]
  refine kOf_congr h1 (by simp) ⟨x, ?_⟩
  rw [Int.toNat_of_nonneg (by omega)]
  omega
theorem ClT.it {n : Int} {o : List Int} (h : ClT n o) (h1 : 1 ≤ n) : ∀ (t : Nat) {j : Nat}, j < (ln n).length → 0 ≤ o.getD j 0 → o.getD (itT n t j) 0 = o.getD j 0
  | 0, _, _, _ => rfl
  | t + 1, j, hj, h0 => by
    have e := h j hj h0
    rw [itT, h.it h1 t (nxT_at h1 hj).1 (by rw [e]; exact h0), e]
/-- what T leads to a marked number is marked -/
theorem ClT.back {n : Int} {o : List Int} (h : ClT n o) (h1 : 1 ≤ n) {j : Nat} (hj : j < (ln n).length) (h0 : 0 ≤ o.getD (nxT n j) 0) : o.getD j 0 = o.getD (nxT n j) 0 := by
  obtain ⟨m, hm⟩ : ∃ m, n.toNat = m + 1 := ⟨n.toNat - 1, by omega⟩
  have e := itT_back h1 hj
  rw [hm, itT] at e
  have := h.it h1 m (nxT_at h1 hj).1 h0
  rw [e] at this
  exact this
/-- what a walk from an unmarked number keeps -/
structure WkT (n c : Int) (o o' : List Int) (j : Nat) : Prop where
  len : o'.length = (ln n).length
  or : ∀ m, m < (ln n).length → o'.getD m 0 = o.getD m 0 ∨ (o.getD m 0 < 0 ∧ o'.getD m 0 = c)
  next : ∀ m, m < (ln n).length → o.getD m 0 < 0 → o'.getD m 0 = c → o'.getD (nxT n m) 0 = c ∨ nxT n m = j
  free : o.getD j 0 < 0
  lt : j < (ln n).length
theorem WkT.run {n c : Int} {o : List Int} (h1 : 1 ≤ n) (hc : 0 ≤ c) (ho : ClT n o) : ∀ (f : Nat) (j : Nat) (o' : List Int), negs o' < f → WkT n c o o' j → ClT n (mrk n c f j o')
  | 0, _, _, hf, _ => by omega
  | f + 1, j, o', hf, W => by
    by_cases h : o'.getD j 0 < 0
    · rw [mrk_yes h]
      have hjl : j < o'.length := by rw [W.len]; exact W.lt
      have hng := negs_set (c := c) hjl h hc
      refine WkT.run h1 hc ho f (nxT n j) (o'.set j c) (by omega) ⟨by rw [List.length_set]; exact W.len, fun m hm => ?_, fun m hm h2 h3 => ?_, ?_, (nxT_at h1 W.lt).1⟩
      · rw [getD_set hjl]
        by_cases e : m = j
        · subst e; rw [if_pos rfl]; exact .inr ⟨W.free, rfl⟩
        · rw [if_neg e]; exact W.or m hm
      · by_cases e : m = j
        · subst e; exact .inr rfl
        · rw [getD_set hjl, if_neg e] at h3
          refine .inl ?_
          rw [getD_set hjl]
          rcases W.next m hm h2 h3 with h4 | h4
          · by_cases e2 : nxT n m = j
            · rw [if_pos e2]
            · rw [if_neg e2]; exact h4
          · rw [if_pos h4]
      · by_cases h4 : 0 ≤ o.getD (nxT n j) 0
        · have := ho.back h1 W.lt h4
          have := W.free
          omega
        · omega
    · rw [mrk_no h]
      have hjc : o'.getD j 0 = c := by
        rcases W.or j W.lt with h2 | h2
        · have := W.free; omega
        · exact h2.2
      intro m hm h0
      rcases W.or m hm with h2 | ⟨h2, h3⟩
      · have e := ho m hm (by omega)
        rcases W.or (nxT n m) (nxT_at h1 hm).1 with h4 | h4
        · omega
        · omega
      · rcases W.next m hm h2 h3 with h4 | h4
        · rw [h4, h3]
        · rw [h4, hjc, h3]
theorem cus_cl {n : Int} (h1 : 1 ≤ n) : ∀ k : Nat, k ≤ (ln n).length → ClT n (cus n k).1 ∧ ∀ i, i < k → 0 ≤ (cus n k).1.getD i 0
  | 0, _ => by
    refine ⟨fun j hj h0 => ?_, fun i hi => by omega⟩
    exfalso
    have e : (cus n 0).1.getD j 0 = -1 := by simp [cus, List.getD, hj]
    omega
  | k + 1, hk => by
    obtain ⟨r1, r2⟩ := cus_cl h1 k (by omega)
    have hl := (cus_len n k).1
    rw [cus]
    by_cases h : (cus n k).1.getD k 0 < 0
    · rw [if_pos h]
      obtain ⟨w1, w2, w3⟩ := walk_is (c := ((cus n k).2 : Int)) h1 (by omega) ((ln n).length + 1) k (cus n k).1 (by omega) hl
      have hcy : (k : Int) ∈ cyL n ((cus n k).2 : Int) ((ln n).length + 1) k (cus n k).1 := by rw [cyL_yes h]; exact List.mem_cons_self
      have hng := negs_le (cus n k).1
      have hcl := WkT.run (c := ((cus n k).2 : Int)) h1 (by omega) r1 ((ln n).length + 1) k (cus n k).1 (by omega) ⟨hl, fun m _ => .inl rfl, fun m hm h2 h3 => by omega, h, by omega⟩
      refine ⟨hcl, fun i hi => ?_⟩
      simp only
      rw [w3 i (by omega)]
      split
      · omega
      · rename_i h5
        by_cases e : i = k
        · subst e; exact absurd hcy h5
        · exact r2 i (by omega)
    · rw [if_neg h]
      refine ⟨r1, fun i hi => ?_⟩
      by_cases e : i = k
      · subst e; omega
      · exact r2 i (by omega)
/-- the cusp of a coset is that of all cosets to which powers of T lead it -/
theorem cus_T {n x : Int} (h1 : 1 ≤ n) {N : Nat} (hN : (ln n).length = N) (t : Int) {y : Int} (hp : isP n x y = true) : (cus n N).1.getD (kOf n x (y + t * x)) 0 = (cus n N).1.getD (kOf n x y) 0 := by
  obtain ⟨r1, r2⟩ := cus_cl h1 N (by omega)
  have key : ∀ (t : Nat) {y : Int}, isP n x y = true → (cus n N).1.getD (kOf n x (y + t * x)) 0 = (cus n N).1.getD (kOf n x y) 0 := fun t y h => by
    rw [← itT_kOf h1 t h]
    have hk := (kOf_spec h1 h).1
    exact r1.it h1 t hk (r2 _ (by omega))
  rcases Int.le_total 0 t with h0 | h0
  · obtain ⟨m, rfl⟩ := Int.eq_ofNat_of_zero_le h0
    exact key m hp
  · obtain ⟨m, hm⟩ := Int.eq_ofNat_of_zero_le (show 0 ≤ -t by omega)
    have := key m (isP_add hp t)
    rw [← hm, show y + t * x + -t * x = y by rw [Int.neg_mul]; omega] at this
    exact this.symm
end Go.Proofs.YtdcomnnpnhinfaaDoor
/- Rests by numbers up to 1000000000. -/
namespace Go.Proofs.YtdcomnnpnhinfaaDoor
open Go.ChangeShapes Go.WideShapes Go.ChangeAt Go.RowKit

theorem l01Mod_big (x n : Int) (h1 : 1 ≤ n) (h2 : n ≤ 1000000000) (hx : I64 x) (w : World) :
    Calls Tryd.prog 59 #[(.int .i64 x), (.int .i64 n)] w fun e w' => e = .returned (.int .i64 (rst x n)) ∧ w = w' := by
  obtain ⟨_, _⟩ := hx
  obtain ⟨_, _⟩ := rem_bd (x := x) h1
  have h3 : 0 ≤ x.tmod n + n := by omega
  go_enter Tryd.func59, Tryd.ntmps59
  go_wp2
  go_ret
  exact ⟨rfl, rfl⟩
theorem restOf_big (x n : Int) (h1 : 1 ≤ n) (h2 : n ≤ 1000000000) (hx : I64 x) (w : World) :
    Calls Tryd.prog 91 #[(.int .i64 x), (.int .i64 n)] w fun e w' => e = .returned (.int .i64 (rst x n)) ∧ w = w' := by
  obtain ⟨_, _⟩ := hx
  obtain ⟨_, _⟩ := rem_bd (x := x) h1
  have h3 : 0 ≤ x.tmod n + n := by omega
  go_enter Tryd.func91, Tryd.ntmps91
  go_wp2
  go_ret
  exact ⟨rfl, rfl⟩
/-- what toothOf gives -/
def tth (q r : Int) : Int := if r = 0 then 0 else 2 * r - q
end Go.Proofs.YtdcomnnpnhinfaaDoor
/- Contracts of IsFraction. -/
namespace Go.Proofs.YtdcomnnpnhinfaaDoor
open Go.ChangeShapes Go.WideShapes Go.ChangeAt Go.RowKit

/-- two numbers are those of a fraction -/
def isF (p q : Int) : Bool := decide (Ent p ∧ 0 ≤ q ∧ q ≤ 1000000000 ∧ Int.gcd p q = 1 ∧ (0 < q ∨ p = 1))
theorem ent_mid' {x : Int} (h : Ent x) : Mid x := by unfold Ent at h; unfold Mid; omega

theorem eq_fr (a b e f : Int) (w : World) : (Op.equalIn 10000 33 (.agg #[.int .i64 a, .int .i64 b]) (.agg #[.int .i64 e, .int .i64 f])).run Tryd.prog w = .ok (decide (a = e ∧ b = f)) w := by
  have u3 := Tryd.underlying2
  have a3 := Tryd.isAgg2
  have z3 := Tryd.sizeOf2
  rw [show (10000 : Nat) = 9999 + 1 from rfl, Op.equalIn]
  simp only [Sem.run_bind, run_underlying Tryd.underlying33, Result.andThen_ok]
  simp only [Std.Legacy.Range.forIn_eq_forIn_range', Std.Legacy.Range.size, Nat.sub_zero, Nat.add_sub_cancel, Nat.div_one, List.range'_succ, List.range'_zero, List.forIn_cons, List.forIn_nil]
  go_simp
  by_cases h1 : a = e <;> by_cases h2 : b = f <;> simp [h1, h2]
theorem eq_fr_is (r : Bool) (a b e f : Int) (hr : decide (a = e ∧ b = f) = r) (w : World) : (Op.equalIn 10000 33 (.agg #[.int .i64 a, .int .i64 b]) (.agg #[.int .i64 e, .int .i64 f])).run Tryd.prog w = .ok r w := hr ▸ eq_fr a b e f w

theorem allW2_is (r : Bool) (a b : Int) (g : Nat) (w : World) (hr : allW [a, b] 1000000000 = r)
    (h0 : w.cell? ⟨g, 0, none⟩ = some (.int .i64 a)) (h1 : w.cell? ⟨g, 1, none⟩ = some (.int .i64 b)) :
    Calls Tryd.prog 69 #[.slice (some ⟨g, 0, none⟩) 2 2, .int .i64 1000000000] w fun e w' => e = .returned (.bool r) ∧ w = w' := by
  subst hr
  refine allWithin_any [a, b] 1000000000 (by omega) (by omega) g 0 2 (by simp) w ?_
  intro k hk
  have : k = 0 ∨ k = 1 := by simp at hk; omega
  rcases this with rfl | rfl <;> simpa

/-- In lowest terms: with the divisor 1, and the sign with the first number. -/
theorem low_iff {p q : Int} (h : ¬ (p = 0 ∧ q = 0)) (hp : Mid p) (hq : Mid q) : (lowP p q = p ∧ lowQ p q = q) ↔ (Int.gcd p q = 1 ∧ 0 ≤ q ∧ (0 < q ∨ p = 1)) := by
  obtain ⟨g1, g2⟩ := gcd_facts h hp hq
  unfold lowP lowQ dv
  constructor
  · rintro ⟨h1, h2⟩
    by_cases hs : q < 0 ∨ (q = 0 ∧ p < 0)
    · rw [if_pos hs] at h1 h2
      rw [Int.tdiv_neg] at h1 h2
      rcases hs with hs | ⟨hs, hs'⟩
      · exfalso
        have : 0 ≤ -q.tdiv (Int.gcd p q) := by
          rw [← Int.neg_tdiv]
          exact Int.tdiv_nonneg (by omega) (by omega)
        omega
      · exfalso
        have : 0 ≤ -p.tdiv (Int.gcd p q) := by
          rw [← Int.neg_tdiv]
          exact Int.tdiv_nonneg (by omega) (by omega)
        omega
    · rw [if_neg hs] at h1 h2
      have hq0 : 0 ≤ q := by omega
      have key : ∀ x : Int, x ≠ 0 → x.tdiv (Int.gcd p q) = x → Int.gcd p q = 1 := by
        intro x hx he
        have h3 : (x.tdiv (Int.gcd p q)).natAbs = x.natAbs / Int.gcd p q := Int.natAbs_tdiv x _
        rw [he] at h3
        rcases Nat.lt_or_ge 1 (Int.gcd p q) with h4 | h4
        · have := Nat.div_lt_self (show 0 < x.natAbs by omega) h4
          omega
        · omega
      by_cases hz : q = 0
      · have hp0 : p ≠ 0 := fun e => h ⟨e, hz⟩
        have hg := key p hp0 h1
        refine ⟨hg, hq0, .inr ?_⟩
        rw [hz, Int.gcd_zero_right] at hg
        omega
      · exact ⟨key q hz h2, hq0, .inl (by omega)⟩
  · rintro ⟨h1, h2, h3⟩
    rw [if_neg (by omega), h1]
    simp
theorem isF_iff {p q : Int} (hp : Ent p) (hq : Ent q) (h : ¬ (p = 0 ∧ q = 0)) : isF p q = decide (lowP p q = p ∧ lowQ p q = q) := by
  unfold isF
  have := low_iff h (ent_mid' hp) (ent_mid' hq)
  rw [Bool.eq_iff_iff, decide_eq_true_iff, decide_eq_true_iff, this]
  unfold Ent at hp hq
  unfold Ent
  omega

set_option maxHeartbeats 1000000 in
theorem implIsF_A (p q : Int) (h : allW [p, q] 1000000000 = false) (w : World) :
    Calls Tryd.prog 40 #[(.agg #[.int .i64 p, .int .i64 q])] w fun e w' => e = .returned (.bool false) ∧ Below w.heap.size w w' := by
  have H := Lib.hid h
  clear h
  go_enter Tryd.func40, Tryd.ntmps40
  go_wp2_with fail
  refine (allW2_is false _ _ _ _ H.out (by simp) (by simp)).mono ?_
  rintro e w1 ⟨rfl, rfl⟩
  go_wp2
  go_ret
  exact ⟨rfl, by repeat (first | with_reducible exact own_refl _ | with_reducible assumption | with_reducible apply own_alloc | with_reducible apply own_drewN | with_reducible apply own_drew | ((with_reducible refine own_setCell ?_ ?_ _); rotate_left; focus (first | (simp; done) | (simp; omega))) | (with_reducible (refine own_trans ?_ (by assumption))))⟩
set_option maxHeartbeats 1000000 in
theorem implIsF_B (w : World) :
    Calls Tryd.prog 40 #[(.agg #[.int .i64 0, .int .i64 0])] w fun e w' => e = .returned (.bool false) ∧ Below w.heap.size w w' := by
  have H := Lib.hid (show allW [0, 0] 1000000000 = true by decide)
  have q0 := fun w => eq_fr_is true 0 0 0 0 (by decide) w
  go_enter Tryd.func40, Tryd.ntmps40
  go_wp2_with fail
  refine (allW2_is true _ _ _ _ H.out (by simp) (by simp)).mono ?_
  rintro e w1 ⟨rfl, rfl⟩
  go_wp2
  go_ret
  exact ⟨rfl, by repeat (first | with_reducible exact own_refl _ | with_reducible assumption | with_reducible apply own_alloc | with_reducible apply own_drewN | with_reducible apply own_drew | ((with_reducible refine own_setCell ?_ ?_ _); rotate_left; focus (first | (simp; done) | (simp; omega))) | (with_reducible (refine own_trans ?_ (by assumption))))⟩
set_option maxHeartbeats 1000000 in
theorem implIsF_C (p q : Int) (r : Bool) (h : allW [p, q] 1000000000 = true) (mp : Mid p) (mq : Mid q) (h0 : ¬ (p = 0 ∧ q = 0)) (hr : decide (lowP p q = p ∧ lowQ p q = q) = r) (w : World) :
    Calls Tryd.prog 40 #[(.agg #[.int .i64 p, .int .i64 q])] w fun e w' => e = .returned (.bool r) ∧ Below w.heap.size w w' := by
  have H := Lib.hid h
  have H0 := Lib.hid h0
  have q0 := fun w => eq_fr_is false p q 0 0 (decide_eq_false h0) w
  have q1 := fun w => eq_fr_is r (lowP p q) (lowQ p q) p q hr w
  clear h h0 hr
  go_enter Tryd.func40, Tryd.ntmps40
  go_wp2_with fail
  refine (allW2_is true _ _ _ _ H.out (by simp) (by simp)).mono ?_
  rintro e w1 ⟨rfl, rfl⟩
  go_upto_region 3 with fail
  have BA : Box (w.alloc (.cells #[.int .i64 p, .int .i64 q] 33)) w.heap.size [.int .i64 p, .int .i64 q] := Box.new _ _ _
  have T : Below w.heap.size w (w.alloc (.cells #[.int .i64 p, .int .i64 q] 33)) := own_alloc (own_refl _) _
  go_cut [2] (fun s wx => s = .bool r ∧ Below w.heap.size w wx)
  case first =>
    go_region_held3 (fun w' => w'.cell? ⟨w.heap.size, 0, none⟩ = some (.int .i64 p) ∧ w'.cell? ⟨w.heap.size, 1, none⟩ = some (.int .i64 q)) (go_keep)
      (first
        | (go_at_call 70; refine (implLow_any _ _ mp mq H0.out _).mono ?_; rintro e w2 ⟨rfl, hb2⟩; have T := (by first | exact own_trans T hb2 | exact own_trans (own_drew T) hb2 : Below w.heap.size w w2); have BA := Box.below (by first | exact BA | exact Box.drew BA) hb2; obtain ⟨_, _, _, _, _⟩ := BA.two))
    all_goals
      go_wp2_with fail
      go_meet
      exact ⟨rfl, T⟩
  case rest =>
    obtain ⟨rfl, T⟩ := hcut
    go_wp2
    go_ret
    exact ⟨rfl, T⟩
theorem implIsF_any (p q : Int) (w : World) :
    Calls Tryd.prog 40 #[(.agg #[.int .i64 p, .int .i64 q])] w fun e w' => e = .returned (.bool (isF p q)) ∧ Below w.heap.size w w' := by
  rcases h : allW [p, q] 1000000000 with _ | _
  · have : isF p q = false := by
      refine decide_eq_false ?_
      rintro ⟨h1, h2, h3, _⟩
      have : allW [p, q] 1000000000 = true := by simp [allW, ent_iff, h1]; unfold Ent; omega
      rw [h] at this; cases this
    rw [this]
    exact implIsF_A p q h w
  · have he : Ent p ∧ Ent q := by simpa [allW, ent_iff] using h
    by_cases h0 : p = 0 ∧ q = 0
    · obtain ⟨rfl, rfl⟩ := h0
      have : isF 0 0 = false := by decide
      rw [this]
      exact implIsF_B w
    · rw [isF_iff he.1 he.2 h0]
      exact implIsF_C p q _ h (ent_mid' he.1) (ent_mid' he.2) h0 rfl w

set_option maxHeartbeats 1000000 in
theorem specIsF_3 (p q g : Int) (mp : Mid p) (mq : Mid q) (hg : (Int.gcd p q : Int) = g) (h1 : inW p 1000000000 = true) (h2 : inR q 0 1000000000 = true) (h3 : (g == 1) = false) (w : World) :
    Calls Tryd.prog 37 #[(.agg #[.int .i64 p, .int .i64 q])] w fun e w' => e = .returned (.bool false) ∧ Below w.heap.size w w' := by
  have HG := Lib.hid hg
  clear hg
  go_enter Tryd.func37, Tryd.ntmps37
  go_wp2_with (first | (go_at_call 67; refine (l01Entry_any _ _).mono ?_; rintro e w1 ⟨rfl, rfl⟩) | (go_at_call 29; refine (l01In_any _ _ _ _).mono ?_; rintro e w1 ⟨rfl, rfl⟩) | (go_at_call 68; refine (l01Gcd_is g _ _ HG.out mp mq _).mono ?_; rintro e w1 ⟨rfl, rfl⟩))
  go_ret
  exact ⟨rfl, own_alloc (own_refl _) _⟩

set_option maxHeartbeats 1000000 in
theorem specIsF_4 (p q g : Int) (mp : Mid p) (mq : Mid q) (hg : (Int.gcd p q : Int) = g) (h1 : inW p 1000000000 = true) (h2 : inR q 0 1000000000 = true) (h3 : (g == 1) = true) (h4 : 0 < q) (w : World) :
    Calls Tryd.prog 37 #[(.agg #[.int .i64 p, .int .i64 q])] w fun e w' => e = .returned (.bool true) ∧ Below w.heap.size w w' := by
  have HG := Lib.hid hg
  clear hg
  go_enter Tryd.func37, Tryd.ntmps37
  go_wp2_with (first | (go_at_call 67; refine (l01Entry_any _ _).mono ?_; rintro e w1 ⟨rfl, rfl⟩) | (go_at_call 29; refine (l01In_any _ _ _ _).mono ?_; rintro e w1 ⟨rfl, rfl⟩) | (go_at_call 68; refine (l01Gcd_is g _ _ HG.out mp mq _).mono ?_; rintro e w1 ⟨rfl, rfl⟩))
  go_ret
  exact ⟨rfl, own_alloc (own_refl _) _⟩

set_option maxHeartbeats 1000000 in
theorem specIsF_5 (p q g : Int) (mp : Mid p) (mq : Mid q) (hg : (Int.gcd p q : Int) = g) (h1 : inW p 1000000000 = true) (h2 : inR q 0 1000000000 = true) (h3 : (g == 1) = true) (h4 : ¬ 0 < q) (h5 : (p == 1) = true) (w : World) :
    Calls Tryd.prog 37 #[(.agg #[.int .i64 p, .int .i64 q])] w fun e w' => e = .returned (.bool true) ∧ Below w.heap.size w w' := by
  have HG := Lib.hid hg
  clear hg
  go_enter Tryd.func37, Tryd.ntmps37
  go_wp2_with (first | (go_at_call 67; refine (l01Entry_any _ _).mono ?_; rintro e w1 ⟨rfl, rfl⟩) | (go_at_call 29; refine (l01In_any _ _ _ _).mono ?_; rintro e w1 ⟨rfl, rfl⟩) | (go_at_call 68; refine (l01Gcd_is g _ _ HG.out mp mq _).mono ?_; rintro e w1 ⟨rfl, rfl⟩))
  go_ret
  exact ⟨rfl, own_alloc (own_refl _) _⟩

set_option maxHeartbeats 1000000 in
theorem specIsF_6 (p q g : Int) (mp : Mid p) (mq : Mid q) (hg : (Int.gcd p q : Int) = g) (h1 : inW p 1000000000 = true) (h2 : inR q 0 1000000000 = true) (h3 : (g == 1) = true) (h4 : ¬ 0 < q) (h5 : (p == 1) = false) (w : World) :
    Calls Tryd.prog 37 #[(.agg #[.int .i64 p, .int .i64 q])] w fun e w' => e = .returned (.bool false) ∧ Below w.heap.size w w' := by
  have HG := Lib.hid hg
  clear hg
  go_enter Tryd.func37, Tryd.ntmps37
  go_wp2_with (first | (go_at_call 67; refine (l01Entry_any _ _).mono ?_; rintro e w1 ⟨rfl, rfl⟩) | (go_at_call 29; refine (l01In_any _ _ _ _).mono ?_; rintro e w1 ⟨rfl, rfl⟩) | (go_at_call 68; refine (l01Gcd_is g _ _ HG.out mp mq _).mono ?_; rintro e w1 ⟨rfl, rfl⟩))
  go_ret
  exact ⟨ret_bool (by simpa using h4), own_alloc (own_refl _) _⟩

theorem specIsF_1' (p q : Int) (h1 : inW p 1000000000 = false) (w : World) :
    Calls Tryd.prog 37 #[(.agg #[.int .i64 p, .int .i64 q])] w fun e w' => e = .returned (.bool false) ∧ Below w.heap.size w w' := by
  go_enter Tryd.func37, Tryd.ntmps37
  go_wp2_with (go_at_call 67; refine (l01Entry_any _ _).mono ?_; rintro e w1 ⟨rfl, rfl⟩)
  go_ret
  exact ⟨rfl, own_alloc (own_refl _) _⟩
theorem specIsF_2' (p q : Int) (h1 : inW p 1000000000 = true) (h2 : inR q 0 1000000000 = false) (w : World) :
    Calls Tryd.prog 37 #[(.agg #[.int .i64 p, .int .i64 q])] w fun e w' => e = .returned (.bool false) ∧ Below w.heap.size w w' := by
  go_enter Tryd.func37, Tryd.ntmps37
  go_wp2_with (first | (go_at_call 67; refine (l01Entry_any _ _).mono ?_; rintro e w1 ⟨rfl, rfl⟩) | (go_at_call 29; refine (l01In_any _ _ _ _).mono ?_; rintro e w1 ⟨rfl, rfl⟩))
  go_ret
  exact ⟨rfl, own_alloc (own_refl _) _⟩
theorem l01Fraction_any (p q : Int) (w : World) :
    Calls Tryd.prog 37 #[(.agg #[.int .i64 p, .int .i64 q])] w fun e w' => e = .returned (.bool (isF p q)) ∧ Below w.heap.size w w' := by
  rcases h1 : inW p 1000000000 with _ | _
  · have : isF p q = false := decide_eq_false fun h => by have := ent_iff.2 h.1; rw [h1] at this; cases this
    rw [this]; exact specIsF_1' p q h1 w
  rcases h2 : inR q 0 1000000000 with _ | _
  · have : isF p q = false := decide_eq_false fun h => by have : inR q 0 1000000000 = true := decide_eq_true ⟨h.2.1, h.2.2.1⟩; rw [h2] at this; cases this
    rw [this]; exact specIsF_2' p q h1 h2 w
  have e1 := ent_iff.1 h1
  have e2 : 0 ≤ q ∧ q ≤ 1000000000 := of_decide_eq_true h2
  have mp := ent_mid' e1
  have mq : Mid q := by unfold Mid; omega
  by_cases h3 : Int.gcd p q = 1
  · have h3' : ((Int.gcd p q : Int) == 1) = true := by rw [h3]; rfl
    by_cases h4 : 0 < q
    · have : isF p q = true := decide_eq_true ⟨e1, e2.1, e2.2, h3, .inl h4⟩
      rw [this]; exact specIsF_4 p q _ mp mq rfl h1 h2 h3' h4 w
    · by_cases h5 : p = 1
      · have : isF p q = true := decide_eq_true ⟨e1, e2.1, e2.2, h3, .inr h5⟩
        rw [this]; exact specIsF_5 p q _ mp mq rfl h1 h2 h3' h4 (by simpa using h5) w
      · have : isF p q = false := decide_eq_false fun h => by rcases h.2.2.2.2 with h | h <;> contradiction
        rw [this]; exact specIsF_6 p q _ mp mq rfl h1 h2 h3' h4 (by simpa using h5) w
  · have : isF p q = false := decide_eq_false fun h => h3 h.2.2.2.1
    rw [this]; exact specIsF_3 p q _ mp mq rfl h1 h2 (by rw [beq_eq_false_iff_ne]; omega) w
end Go.Proofs.YtdcomnnpnhinfaaDoor
/- The model's second number below a fraction: an s with p s of the rest 1 by q. -/
namespace Go.Proofs.YtdcomnnpnhinfaaDoor
open Go.ChangeShapes Go.WideShapes Go.ChangeAt Go.RowKit

/-- what Euclid's rounds keep -/
structure BtI (p q a b s t : Int) : Prop where
  a1 : 1 ≤ a
  aq : a ≤ q
  b0 : 0 ≤ b
  ba : b ≤ q
  gc : Int.gcd a b = 1
  ds : q ∣ s * p - a
  dt : q ∣ t * p - b
  uv : ∃ e u v : Int, (e = 1 ∨ e = -1) ∧ 0 ≤ u ∧ 0 ≤ v ∧ s = e * u ∧ t = -e * v ∧ u * b + v * a = q ∧ u ≤ q ∧ v ≤ q
theorem BtI.bd {p q a b s t : Int} (h : BtI p q a b s t) (hq : q ≤ 1000000000) : -1000000000 ≤ s ∧ s ≤ 1000000000 ∧ -1000000000 ≤ t ∧ t ≤ 1000000000 := by
  obtain ⟨e, u, v, he, hu, hv, hs, ht, -, h1, h2⟩ := h.uv
  rcases he with rfl | rfl <;> (simp at hs ht; omega)
theorem gcd_emodB (p q : Int) : Int.gcd (p % q) q = Int.gcd p q := by
  rw [Int.emod_def, Int.sub_eq_add_neg, ← Int.mul_neg]
  simp
theorem BtI.start {p q : Int} (hq : 1 ≤ q) (hg : Int.gcd p q = 1) : BtI p q q (p % q) 0 1 := by
  have h0 := Int.emod_nonneg p (show q ≠ 0 by omega)
  have h1 := Int.emod_lt_of_pos p (show 0 < q by omega)
  refine ⟨hq, Int.le_refl _, h0, by omega, ?_, ⟨-1, by omega⟩, ?_, ⟨-1, 0, 1, .inr rfl, by omega, by omega, by omega, by omega, by omega, by omega, by omega⟩⟩
  · rw [Int.gcd_comm]
    rw [gcd_emodB, hg]
  · rw [Int.one_mul]
    exact ⟨p / q, by have := Int.mul_ediv_add_emod p q; omega⟩
theorem BtI.round {p q a b s t k : Int} (h : BtI p q a b s t) (hb : b ≠ 0) (hk : a.tdiv b = k) :
    BtI p q b (a - k * b) t (s - k * t) ∧ (a - k * b) < b ∧ 0 ≤ k ∧ k * b ≤ a ∧ -1000000000000000000 ≤ k * t ∧ k * t ≤ 1000000000000000000 ∨ 1000000000 < q := by
  by_cases hq : 1000000000 < q
  · exact .inr hq
  refine .inl ?_
  have a1 := h.a1
  have b0 := h.b0
  have hbp : 0 < b := by omega
  have e1 : a.tdiv b = a / b := Int.tdiv_eq_ediv_of_nonneg (by omega)
  rw [e1] at hk
  have e2 : a - k * b = a % b := by
    rw [← hk]
    have := Int.mul_ediv_add_emod a b
    rw [Int.mul_comm b] at this
    omega
  have r0 := Int.emod_nonneg a hb
  have r1 := Int.emod_lt_of_pos a hbp
  have k0 : 0 ≤ k := by rw [← hk]; exact Int.ediv_nonneg (by omega) (by omega)
  obtain ⟨e, u, v, he, hu, hv, hs, ht, huv, h1, h2⟩ := h.uv
  have haq := h.aq
  have hba := h.ba
  have key : v * (a - k * b) + (u + k * v) * b = q := by rw [← huv]; grind
  have hkv : 0 ≤ k * v := Int.mul_nonneg k0 hv
  have hnb : 0 ≤ v * (a - k * b) := Int.mul_nonneg hv (by omega)
  have hw : u + k * v ≤ q := by
    have := Int.mul_le_mul_of_nonneg_left (show 1 ≤ b by omega) (show 0 ≤ u + k * v by omega)
    rw [Int.mul_one] at this
    omega
  have hkt : k * t = -e * (k * v) := by rw [ht]; grind
  refine ⟨⟨by omega, hba, by omega, by omega, ?_, h.dt, ?_, ⟨-e, v, u + k * v, by omega, hv, by omega, by rw [ht], ?_, key, h2, hw⟩⟩, by omega, k0, by omega, ?_, ?_⟩
  · rw [e2]
    have hg := h.gc
    rw [Int.gcd_comm] at hg
    have e3 : a % b = a - b * (a / b) := Int.emod_def a b
    rw [Int.gcd_comm]
    rw [gcd_emodB, h.gc]
  · obtain ⟨x, hx⟩ := h.ds
    obtain ⟨y, hy⟩ := h.dt
    exact ⟨x - k * y, by grind⟩
  · rw [hs, hkt]; grind
  · rw [hkt]; rcases he with rfl | rfl <;> simp <;> omega
  · rw [hkt]; rcases he with rfl | rfl <;> simp <;> omega
theorem BtI.last {p q a s t : Int} (h : BtI p q a 0 s t) : q ∣ p * s - 1 := by
  have hg := h.gc
  have a1 := h.a1
  have : a = 1 := by
    rw [Int.gcd_zero_right] at hg
    omega
  subst this
  have := h.ds
  rwa [Int.mul_comm] at this
set_option maxRecDepth 100000 in
set_option maxHeartbeats 4000000 in
theorem l06Bottom_is (p q : Int) (h : isF p q = true) (w : World) : Calls Tryd.prog 39 #[(.agg #[.int .i64 p, .int .i64 q])] w fun e w' => ∃ s : Int, e = .returned (.int .i64 s) ∧ Hid (q ∣ p * s - 1 ∧ (q = 0 → s = 1) ∧ Ent s) ∧ Below w.heap.size w w' := by
  obtain ⟨hp, hq0, hq1, hg, hor⟩ := of_decide_eq_true h
  unfold Ent at hp
  have B0 : Box (w.alloc (.cells #[(.int .i64 p), (.int .i64 q)] 33)) w.heap.size [(.int .i64 p), (.int .i64 q)] := Box.new _ _ _
  have T0 := own_alloc (own_refl w) (.cells #[(.int .i64 p), (.int .i64 q)] 33)
  by_cases hq : q = 0
  · subst hq
    have h1 : p = 1 := by omega
    subst h1
    clear h hp hg hor
    go_enter Tryd.func39, Tryd.ntmps39
    go_upto_region 1 with fail
    generalize w.alloc (.cells #[(.int .i64 1), (.int .i64 0)] 33) = w0 at *
    obtain ⟨-, c0, c1, -, -⟩ := B0.two
    go_region
    go_wp2
    go_ret
    exact ⟨1, rfl, Lib.hid ⟨by simp, fun _ => rfl, by unfold Ent; omega⟩, by repeat (first | with_reducible exact own_refl _ | with_reducible assumption | with_reducible apply own_alloc | with_reducible apply own_drewN | with_reducible apply own_drew | ((with_reducible refine own_setCell ?_ ?_ _); rotate_left; focus (first | (simp; done) | (simp; omega))) | (with_reducible (refine own_trans ?_ (by assumption))))⟩
  · have HS := Lib.hid (BtI.start (p := p) (q := q) (by omega) hg)
    have HM := Lib.hid (fun w => l01Mod_big p q (by omega) hq1 (by unfold I64; omega) w)
    have hr : rst p q = p % q := rst_emod p q (by omega)
    rw [hr] at HM
    have hb := Int.emod_lt_of_pos p (show 0 < q by omega)
    have hb0 := Int.emod_nonneg p hq
    generalize p % q = b0 at *
    have HQ := Lib.hid (And.intro hq0 (And.intro hq1 hq))
    clear h hg hor hr
    go_enter Tryd.func39, Tryd.ntmps39
    go_upto_region 1 with fail
    generalize w.alloc (.cells #[(.int .i64 p), (.int .i64 q)] 33) = w0 at *
    obtain ⟨-, c0, c1, -, -⟩ := B0.two
    go_region
    have T1 := own_drew T0
    generalize w0.drew = w1 at *
    clear c0 c1 B0 T0
    go_wp2_with fail
    refine (HM.out _).mono ?_
    rintro e w2 ⟨rfl, rfl⟩
    go_wp2_with fail
    go_loopw [5, 6, 7, 8] (fun va vb vs vt wr => ∃ a b s t : Int, va = (.int .i64 a) ∧ vb = (.int .i64 b) ∧ vs = (.int .i64 s) ∧ vt = (.int .i64 t) ∧ Hid (BtI p q a b s t) ∧ Below w.heap.size w wr) (fun _ vb _ _ _ => (intOf vb).toNat)
    case atStart => exact ⟨q, b0, 0, 1, rfl, rfl, rfl, rfl, HS, T1⟩
    case round =>
      obtain ⟨a, b, s, t, rfl, rfl, rfl, rfl, HI, T⟩ := hrel
      by_cases hb0' : b = 0
      · subst hb0'
        go_wp2
        go_ret
        have hbd := HI.out.bd HQ.out.2.1
        exact ⟨s, rfl, Lib.hid ⟨HI.out.last, fun e => absurd e HQ.out.2.2, by unfold Ent; omega⟩, T⟩
      · obtain ⟨k, hk⟩ : ∃ k, a.tdiv b = k := ⟨_, rfl⟩
        have hrd := HI.out.round hb0' hk
        have hbd := HI.out.bd HQ.out.2.1
        have q1 := HI.out.a1
        have q2 := HI.out.aq
        have q3 := HI.out.b0
        have q5 := HQ.out
        rcases hrd with ⟨R, r1, r2, r3, r4, r5⟩ | hrd
        · have hR := R.bd HQ.out.2.1
          have q6 := R.b0
          have HR := Lib.hid R
          clear R
          obtain ⟨kb, hkb⟩ : ∃ x, k * b = x := ⟨_, rfl⟩
          obtain ⟨kt, hkt⟩ : ∃ x, k * t = x := ⟨_, rfl⟩
          rw [hkb] at r1 r3 q6 HR
          rw [hkt] at r4 r5 HR hR
          have hkb0 : 0 ≤ kb := by rw [← hkb]; exact Int.mul_nonneg r2 q3
          have hkq : k ≤ 1000000000 := by
            have : k * 1 ≤ k * b := Int.mul_le_mul_of_nonneg_left (by omega) r2
            omega
          have X1 : IntKind.i64.wrap (k * b) = kb := by rw [hkb]; exact IntWalk.i64_in _ (by omega)
          have X2 : IntKind.i64.wrap (k * t) = kt := by rw [hkt]; exact IntWalk.i64_in _ (by omega)
          have X3 : IntKind.i64.wrap (a - kb) = a - kb := IntWalk.i64_in _ (by omega)
          have X4 : IntKind.i64.wrap (s - kt) = s - kt := IntWalk.i64_in _ (by omega)
          have X5 : IntKind.i64.wrap k = k := IntWalk.i64_in _ (by omega)
          have HB := Lib.hid (show a - kb < b ∧ 0 ≤ b by omega)
          have hbne : (b != 0) = true := by simpa using hb0'
          have hj0 : ¬ b = 0 := hb0'
          clear hkb hkt hkb0 hbd r1 r2 r3 r4 r5 q1 q2 q3 q5 q6 hR hkq
          go_wp2
          go_roundw
          case rel => exact ⟨b, a - kb, t, s - kt, rfl, rfl, rfl, rfl, HR, T⟩
          case measure => have := HB.out; simp [intOf]; omega
        · omega
end Go.Proofs.YtdcomnnpnhinfaaDoor
