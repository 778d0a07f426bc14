/- The number of a coset depends on two rests but for a unit; matrices lead cosets. No program. -/
import Derived.Test.YtdcomnnpnhinfaaDoorLed
import Derived.Test.YtdcomnnpnhinfaaDoorLnX
import Derived.Test.YtdcomnnpnhinfaaDoorKep
import Derived.Test.YtdcomnnpnhinfaaDoorMS
import Derived.Test.YtdcomnnpnhinfaaDoorLnS
import Derived.Laws.MakeOwn
namespace Go.Proofs.YtdcomnnpnhinfaaDoor
open Go.ChangeShapes Go.WideShapes Go.ChangeAt Go.RowKit

theorem bezN (a b : Nat) : ∃ s t : Int, s * a + t * b = (Nat.gcd a b : Int) := by
  induction a, b using Nat.gcd.induction with
  | H0 b => exact ⟨0, 1, by simp⟩
  | H1 a b ha ih =>
    obtain ⟨s, t, h⟩ := ih
    refine ⟨t - s * (b / a : Nat), s, ?_⟩
    rw [Nat.gcd_rec, ← h]
    have e : ((b % a : Nat) : Int) = b - a * (b / a : Nat) := by
      have := congrArg (fun n : Nat => (n : Int)) (Nat.div_add_mod b a)
      simp only [Int.natCast_add, Int.natCast_mul] at this
      omega
    rw [e]
    grind
theorem inv_unit {u n : Int} (h : Int.gcd u n = 1) : ∃ v, n ∣ u * v - 1 := by
  obtain ⟨s, t, h2⟩ := bezN u.natAbs n.natAbs
  have h3 : Nat.gcd u.natAbs n.natAbs = 1 := h
  rw [h3] at h2
  have hu : (u.natAbs : Int) = u ∨ (u.natAbs : Int) = -u := by omega
  have hn : (n.natAbs : Int) = n ∨ (n.natAbs : Int) = -n := by omega
  rcases hu with e | e <;> rcases hn with f | f <;> rw [e, f] at h2
  · exact ⟨s, -t, by grind⟩
  · exact ⟨s, t, by grind⟩
  · exact ⟨-s, -t, by grind⟩
  · exact ⟨-s, t, by grind⟩
theorem unit_inv {u v n : Int} (h : n ∣ u * v - 1) : Int.gcd v n = 1 := by
  have h1 : ((Int.gcd v n : Nat) : Int) ∣ v := Int.gcd_dvd_left _ _
  have h2 : ((Int.gcd v n : Nat) : Int) ∣ n := Int.gcd_dvd_right _ _
  have h4 : ((Int.gcd v n : Nat) : Int) ∣ 1 := by
    have h5 := Int.dvd_sub (Int.dvd_trans h1 (Int.dvd_mul_left u v)) (Int.dvd_trans h2 h)
    rwa [show u * v - (u * v - 1) = 1 by omega] at h5
  have := Int.eq_one_of_dvd_one (by omega) h4
  omega
theorem emod_of_dvd {n x y : Int} (h : n ∣ x - y) : x % n = y % n := by
  rw [Int.emod_eq_emod_iff_emod_sub_eq_zero]
  exact Int.emod_eq_zero_of_dvd h
theorem dvd_emod (n x : Int) : n ∣ x % n - x := by
  have := Int.mul_ediv_add_emod x n
  exact ⟨-(x / n), by rw [Int.mul_neg]; omega⟩
theorem unit_mul {u v n : Int} (hu : Int.gcd u n = 1) (hv : Int.gcd v n = 1) : Int.gcd (u * v) n = 1 := by
  have h1 : Nat.Coprime u.natAbs n.natAbs := hu
  have h2 : Nat.Coprime v.natAbs n.natAbs := hv
  show Nat.gcd (u * v).natAbs n.natAbs = 1
  rw [Int.natAbs_mul]
  exact Nat.Coprime.mul_left h1 h2
/-- the normal pair of a multiple by a unit -/
theorem nrm_same {n x y u : Int} (h1 : 1 ≤ n) (hx : 0 ≤ x ∧ x < n) (hy : 0 ≤ y ∧ y < n) (hu : Int.gcd u n = 1) : nrm n (u * x % n) (u * y % n) = nrm n x y := by
  have rx : 0 ≤ u * x % n ∧ u * x % n < n := ⟨Int.emod_nonneg _ (by omega), Int.emod_lt_of_pos _ (by omega)⟩
  have ry : 0 ≤ u * y % n ∧ u * y % n < n := ⟨Int.emod_nonneg _ (by omega), Int.emod_lt_of_pos _ (by omega)⟩
  have e : ∀ t z : Int, t * (u * z % n) % n = t * u * z % n := fun t z => by rw [Int.mul_emod, Int.emod_emod, ← Int.mul_emod, Int.mul_assoc]
  obtain ⟨t, ht, hq⟩ := nrm_unit h1 rx ry
  obtain ⟨s, hs, hp⟩ := nrm_unit h1 hx hy
  obtain ⟨v, hv⟩ := inv_unit hu
  have hvu := unit_inv hv
  have a1 := nrm_low h1 hx hy (unit_mul ht hu)
  have a2 := nrm_low h1 rx ry (unit_mul hs hvu)
  rw [e, e] at a2
  have e2 : ∀ z : Int, s * v * u * z % n = s * z % n := fun z => by
    refine emod_of_dvd ?_
    obtain ⟨q, hq⟩ := hv
    exact ⟨s * z * q, by grind⟩
  rw [e2, e2] at a2
  rw [e, e] at hq
  rw [hp] at a1 ⊢
  rw [hq] at a2 ⊢
  obtain ⟨b1, b2⟩ := lss2_anti a2 a1
  exact Prod.ext b1.symm b2.symm
theorem kOf_congr {n x y x' y' : Int} (h1 : 1 ≤ n) (hx : n ∣ x - x') (hy : n ∣ y - y') : kOf n x y = kOf n x' y' := by
  unfold kOf
  rw [rst_emod _ _ h1, rst_emod _ _ h1, rst_emod _ _ h1, rst_emod _ _ h1, emod_of_dvd hx, emod_of_dvd hy]
theorem kOf_unit {n x y u : Int} (h1 : 1 ≤ n) (hu : Int.gcd u n = 1) : kOf n (u * x) (u * y) = kOf n x y := by
  unfold kOf
  rw [rst_emod _ _ h1, rst_emod _ _ h1, rst_emod _ _ h1, rst_emod _ _ h1]
  have e : ∀ z : Int, u * z % n = u * (z % n) % n := fun z => by rw [Int.mul_emod u (z % n), Int.emod_emod, ← Int.mul_emod]
  rw [e x, e y, nrm_same h1 ⟨Int.emod_nonneg _ (by omega), Int.emod_lt_of_pos _ (by omega)⟩ ⟨Int.emod_nonneg _ (by omega), Int.emod_lt_of_pos _ (by omega)⟩ hu]
/-- A pair of the line is alike to the pair whose number it has. -/
theorem at_unit {n x y : Int} (h1 : 1 ≤ n) (hp : isP n x y = true) : ∃ u, Int.gcd u n = 1 ∧ n ∣ ((ln n).getD (kOf n x y) (0, 0)).1 - u * x ∧ n ∣ ((ln n).getD (kOf n x y) (0, 0)).2 - u * y := by
  obtain ⟨_, h2⟩ := kOf_spec h1 hp
  obtain ⟨u, hu, h3⟩ := nrm_unit h1 (rst_bd (x := x) h1) (rst_bd (x := y) h1)
  rw [h2, h3, rst_emod _ _ h1, rst_emod _ _ h1]
  have e : ∀ z : Int, n ∣ u * (z % n) % n - u * z := fun z => by
    have a := dvd_emod n (u * (z % n))
    have b := Int.dvd_mul_of_dvd_right (b := u) (dvd_emod n z)
    have := Int.dvd_add a b
    rwa [show u * (z % n) % n - u * (z % n) + u * (z % n - z) = u * (z % n) % n - u * z by rw [Int.mul_sub]; omega] at this
  exact ⟨u, hu, e x, e y⟩
/-- Where a matrix leads the coset of a pair. -/
theorem kOf_led {n x y a b c d : Int} (h1 : 1 ≤ n) (hp : isP n x y = true) :
    kOf n (((ln n).getD (kOf n x y) (0, 0)).1 * a + ((ln n).getD (kOf n x y) (0, 0)).2 * c) (((ln n).getD (kOf n x y) (0, 0)).1 * b + ((ln n).getD (kOf n x y) (0, 0)).2 * d) = kOf n (x * a + y * c) (x * b + y * d) := by
  obtain ⟨u, hu, ⟨q, hq⟩, ⟨r, hr⟩⟩ := at_unit h1 hp
  rw [← kOf_unit (x := x * a + y * c) (y := x * b + y * d) h1 hu]
  refine kOf_congr h1 ⟨q * a + r * c, ?_⟩ ⟨q * b + r * d, ?_⟩ <;> grind
end Go.Proofs.YtdcomnnpnhinfaaDoor
/- Lists of symbols and the relations of a level. No program. -/
namespace Go.Proofs.YtdcomnnpnhinfaaDoor
open Go.ChangeShapes Go.WideShapes Go.ChangeAt Go.RowKit

/-- one more at the place i -/
def bmp (l : List Int) (i : Nat) : List Int := l.set i (l.getD i 0 + 1)
theorem bmp_len (l : List Int) (i : Nat) : (bmp l i).length = l.length := by simp [bmp]
theorem bmp_get {l : List Int} {i j : Nat} (hi : i < l.length) : (bmp l i).getD j 0 = l.getD j 0 + if j = i then 1 else 0 := by
  unfold bmp
  by_cases e : j = i
  · subst e
    simp [List.getD, hi]
  · simp [List.getD, List.getElem?_set_ne (Ne.symm e), e]
/-- one more at each of the places ss behind o -/
def addS (l : List Int) (o : Nat) : List Nat → List Int
  | [] => l
  | s :: r => addS (bmp l (o + s)) o r
theorem addS_snoc (o s : Nat) : ∀ (r : List Nat) (l : List Int), addS l o (r ++ [s]) = bmp (addS l o r) (o + s)
  | [], _ => rfl
  | x :: r, l => addS_snoc o s r (bmp l (o + x))
theorem addS_len (o : Nat) : ∀ (ss : List Nat) (l : List Int), (addS l o ss).length = l.length
  | [], _ => rfl
  | s :: r, l => by rw [addS, addS_len o r, bmp_len]
theorem take_snocN {ss : List Nat} {k : Nat} (hk : k < ss.length) : ss.take (k + 1) = ss.take k ++ [ss.getD k 0] := by
  rw [List.take_add_one]
  simp [List.getD, List.getElem?_eq_getElem hk]
theorem addS_step {l : List Int} {o k : Nat} {ss : List Nat} (hk : k < ss.length) : addS l o (ss.take (k + 1)) = bmp (addS l o (ss.take k)) (o + ss.getD k 0) := by
  rw [take_snocN hk, addS_snoc]
theorem addS_bd {o : Nat} : ∀ (ss : List Nat) (l : List Int) (B : Int), (∀ q, 0 ≤ l.getD q 0 ∧ l.getD q 0 ≤ B) → (∀ s ∈ ss, o + s < l.length) → ∀ q, 0 ≤ (addS l o ss).getD q 0 ∧ (addS l o ss).getD q 0 ≤ B + ss.length
  | [], l, B, h, _, q => by have := h q; simp only [addS, List.length_nil]; omega
  | s :: r, l, B, h, hs, q => by
    have h1 := addS_bd r (bmp l (o + s)) (B + 1) (fun q => by
      rw [bmp_get (hs s (by simp))]
      have := h q
      split <;> omega) (fun x hx => by rw [bmp_len]; exact hs x (by simp [hx])) q
    rw [addS]
    simp only [List.length_cons]
    omega
def zer (N : Nat) : List Int := List.replicate N 0
theorem zer_get (N q : Nat) : (zer N).getD q 0 = 0 := by
  unfold zer
  by_cases h : q < N
  · simp [List.getD, h]
  · simp [List.getD, h]

/-- A flat list reads as rows of N numbers. -/
def RowsF (xs : List Int) (N M : Nat) (f : Nat → List Int) : Prop := ∀ j, j < M → ∀ i, i < N → xs.getD (j * N + i) 0 = (f j).getD i 0
theorem idx_row {N j i j' i' : Nat} (hi : i < N) (hi' : i' < N) (h : j * N + i = j' * N + i') : j = j' ∧ i = i' := by
  have h1 : (j * N + i) / N = j := by rw [Nat.mul_comm, Nat.mul_add_div (by omega), Nat.div_eq_of_lt hi]; omega
  have h2 : (j' * N + i') / N = j' := by rw [Nat.mul_comm, Nat.mul_add_div (by omega), Nat.div_eq_of_lt hi']; omega
  have e : j = j' := by rw [← h1, h, h2]
  subst e
  exact ⟨rfl, by omega⟩
theorem idx_lt {N M j i : Nat} (hj : j < M) (hi : i < N) : j * N + i < M * N := by
  have h1 : (j + 1) * N ≤ M * N := Nat.mul_le_mul_right N hj
  rw [Nat.add_mul] at h1
  omega
theorem RowsF.bmp {xs : List Int} {N M j s : Nat} {f : Nat → List Int} (h : RowsF xs N M f) (hl : xs.length = M * N) (hj : j < M) (hs : s < N) (hf : (f j).length = N) :
    RowsF (bmp xs (j * N + s)) N M (fun q => if q = j then Go.Proofs.YtdcomnnpnhinfaaDoor.bmp (f j) s else f q) := by
  intro a ha i hi
  rw [bmp_get (by rw [hl]; exact idx_lt hj hs), h a ha i hi]
  by_cases e : a = j
  · subst e
    simp only [if_true]
    rw [bmp_get (by rw [hf]; exact hs)]
    by_cases e2 : i = s
    · subst e2; simp
    · rw [if_neg (fun h => e2 (by omega)), if_neg e2]
  · rw [if_neg (fun h => e (idx_row hi hs h).1)]
    simp [e]
theorem RowsF.congr {xs : List Int} {N M : Nat} {f g : Nat → List Int} (h : RowsF xs N M f) (e : ∀ j, j < M → f j = g j) : RowsF xs N M g := fun j hj i hi => by rw [← e j hj]; exact h j hj i hi
theorem RowsF.addS {N M j : Nat} : ∀ (ss : List Nat) {xs : List Int} {f : Nat → List Int}, RowsF xs N M f → xs.length = M * N → j < M → (∀ s ∈ ss, s < N) → (f j).length = N →
    RowsF (addS xs (j * N) ss) N M (fun q => if q = j then Go.Proofs.YtdcomnnpnhinfaaDoor.addS (f j) 0 ss else f q)
  | [], xs, f, h, _, _, _, _ => h.congr fun q _ => by
    by_cases e : q = j
    · subst e; simp [Go.Proofs.YtdcomnnpnhinfaaDoor.addS]
    · simp [e]
  | s :: r, xs, f, h, hl, hj, hs, hf => by
    have h1 := h.bmp hl hj (hs s (by simp)) hf
    have h2 := RowsF.addS r h1 (by rw [bmp_len]; exact hl) hj (fun x hx => hs x (by simp [hx])) (by simp [bmp_len, hf])
    refine h2.congr fun q _ => ?_
    by_cases e : q = j
    · subst e
      simp [Go.Proofs.YtdcomnnpnhinfaaDoor.addS]
    · simp [e]

/-- where S, U and U U lead the coset i -/
def kS (n : Int) (i : Nat) : Nat := kOf n ((ln n).getD i (0, 0)).2 (-((ln n).getD i (0, 0)).1)
def kU (n : Int) (i : Nat) : Nat := kOf n (((ln n).getD i (0, 0)).1 + ((ln n).getD i (0, 0)).2) (-((ln n).getD i (0, 0)).1)
def kV (n : Int) (i : Nat) : Nat := kOf n ((ln n).getD i (0, 0)).2 (-((ln n).getD i (0, 0)).1 - ((ln n).getD i (0, 0)).2)
/-- the relations of a coset -/
def relS (n : Int) (N i : Nat) : List Int := addS (zer N) 0 [i, kS n i]
def relU (n : Int) (N i : Nat) : List Int := addS (zer N) 0 [i, kU n i, kV n i]
def rel (n : Int) (N j : Nat) : List Int := if j < N then relS n N j else relU n N (j - N)
theorem relS_len (n : Int) (N i : Nat) : (relS n N i).length = N := by rw [relS, addS_len, zer, List.length_replicate]
theorem relU_len (n : Int) (N i : Nat) : (relU n N i).length = N := by rw [relU, addS_len, zer, List.length_replicate]
theorem rel_len (n : Int) (N i : Nat) : (rel n N i).length = N := by unfold rel; split; exact relS_len _ _ _; exact relU_len _ _ _
theorem rel_bd (n : Int) (N i q : Nat) (h1 : ∀ i, i < N → kS n i < N ∧ kU n i < N ∧ kV n i < N) (hi : i < N + N) : 0 ≤ (rel n N i).getD q 0 ∧ (rel n N i).getD q 0 ≤ 3 := by
  have hz : ∀ q, 0 ≤ (zer N).getD q 0 ∧ (zer N).getD q 0 ≤ (0 : Int) := fun q => by rw [zer_get]; omega
  have hl : (zer N).length = N := by simp [zer]
  unfold rel
  split
  · have := addS_bd (o := 0) [i, kS n i] (zer N) 0 hz (fun s hs => by
      have := h1 i (by omega)
      rw [hl]
      simp at hs
      omega) q
    unfold relS
    simp only [List.length_cons, List.length_nil] at this
    omega
  · have := addS_bd (o := 0) [i - N, kU n (i - N), kV n (i - N)] (zer N) 0 hz (fun s hs => by
      have := h1 (i - N) (by omega)
      rw [hl]
      simp at hs
      omega) q
    unfold relU
    simp only [List.length_cons, List.length_nil] at this
    omega
theorem isP_neg {n c d : Int} (h : isP n c d = true) : isP n d (-c - d) = true := by
  unfold isP at *
  have e : Int.gcd d (-c - d) = Int.gcd c d := by
    rw [show -c - d = -(c + d) by omega, Int.gcd_neg, Int.gcd_comm]
    have := Int.gcd_add_self_right (m := d) (n := c)
    first
      | rw [Int.gcd_comm, this, Int.gcd_comm]
      | simp
  rw [e]
  exact h
theorem ln_isP {n : Int} (h1 : 1 ≤ n) {i : Nat} (hi : i < (ln n).length) : isP n ((ln n).getD i (0, 0)).1 ((ln n).getD i (0, 0)).2 = true := by
  obtain ⟨_, _, _, _, h⟩ := ln_at h1 hi
  unfold okP at h
  rw [Bool.and_eq_true] at h
  exact h.1
theorem kS_lt {n : Int} (h1 : 1 ≤ n) {i : Nat} (hi : i < (ln n).length) : kS n i < (ln n).length := (kOf_spec h1 (isP_S (ln_isP h1 hi))).1
theorem kU_lt {n : Int} (h1 : 1 ≤ n) {i : Nat} (hi : i < (ln n).length) : kU n i < (ln n).length := (kOf_spec h1 (isP_U (ln_isP h1 hi))).1
theorem kV_lt {n : Int} (h1 : 1 ≤ n) {i : Nat} (hi : i < (ln n).length) : kV n i < (ln n).length := (kOf_spec h1 (isP_neg (ln_isP h1 hi))).1
/-- U twice -/
theorem kU_kU {n : Int} (h1 : 1 ≤ n) {i : Nat} (hi : i < (ln n).length) : kU n (kU n i) = kV n i := by
  have h := kOf_led (n := n) (a := 1) (b := -1) (c := 1) (d := 0) h1 (isP_U (ln_isP h1 hi))
  unfold kU kV
  unfold kU at h
  generalize ((ln n).getD i (0, 0)).1 = c at *
  generalize ((ln n).getD i (0, 0)).2 = d at *
  have e1 : (c + d) * 1 + -c * 1 = d := by omega
  have e2 : (c + d) * -1 + -c * 0 = -c - d := by omega
  rw [e1, e2] at h
  rw [← h]
  congr 1 <;> omega
end Go.Proofs.YtdcomnnpnhinfaaDoor
/- impl.addSymbols: contract. -/
namespace Go.Proofs.YtdcomnnpnhinfaaDoor
open Go.ChangeShapes Go.WideShapes Go.ChangeAt Go.RowKit

theorem mem_at {ss : List Nat} {k : Nat} (hk : k < ss.length) : ss.getD k 0 ∈ ss := by
  simp only [List.getD, List.getElem?_eq_getElem hk, Option.getD_some]
  exact List.getElem_mem hk
end Go.Proofs.YtdcomnnpnhinfaaDoor
/- Rows that are cut from one list. -/
namespace Go.Proofs.YtdcomnnpnhinfaaDoor
open Go.ChangeShapes Go.WideShapes Go.ChangeAt Go.RowKit

theorem madeCells_one (v : Value) (n : Nat) (hv : v.cells = #[v]) : madeCells v.cells ((n : Int).toNat * 1) = Array.replicate n v := by
  apply Array.ext
  · simp [size_madeCells]
  · intro i h1 h2
    simp [madeCells, hv, Nat.mod_one]
theorem made64 (n : Nat) (hn : n ≤ 1048576) (w : World) : (Instr.makeSlice 22 (.int .i64 n) (.int .i64 n)).run Tryd.prog w =
    .ok (.slice (some ⟨w.heap.size, 0, none⟩) n n) (w.alloc (.cells (Array.replicate n (.int .i64 0)) 2)) := by
  obtain ⟨i0, hi, hz0, hz1, hz2⟩ := info_parts info_i64
  have h := run_make (P := Tryd.prog) (w := w) 22 2 i0 (.int .i64 0) Tryd.underlying22 hi hz0 .i64 .i64 n n (by omega) (Int.le_refl _) (by rw [hz2]; omega) (by omega)
  rw [h, hz1, madeCells_one _ n rfl]
  simp
theorem madeRow (m n : Nat) (hm : m ≤ n) (hn : n ≤ 1048576) (w : World) : (Instr.makeSlice 49 (.int .i64 m) (.int .i64 n)).run Tryd.prog w =
    .ok (.slice (some ⟨w.heap.size, 0, none⟩) m n) (w.alloc (.cells (Array.replicate n rowZ) 22)) := by
  obtain ⟨i0, hi, hz0, hz1, hz2⟩ := info_parts info_row
  have h := run_make (P := Tryd.prog) (w := w) 49 22 i0 rowZ Tryd.underlying49 hi hz0 .i64 .i64 m n (by omega) (by omega) (by rw [hz2]; omega) (by omega)
  rw [h, hz1, madeCells_one _ n rfl]
  simp
theorem made0 (n : Nat) (hn : n ≤ 1048576) (w : World) : (Instr.makeSlice 49 (.int .i64 0) (.int .i64 n)).run Tryd.prog w =
    .ok (.slice (some ⟨w.heap.size, 0, none⟩) 0 n) (w.alloc (.cells (Array.replicate n rowZ) 22)) := madeRow 0 n (by omega) hn w
theorem Gr.zer {w : World} {L g : Nat} (hg : w.heap.size = g) (hL : L ≤ g) (n : Nat) (hn : n ≤ 1048576) : Gr (w.alloc (.cells (Array.replicate n (.int .i64 0)) 2)) L (.slice (some ⟨g, 0, none⟩) n n) (zer n) := by
  subst hg
  have h := World.ownsRow_lit (e := 2) (size := 1) (base := L) w (Array.replicate n (Value.int .i64 0)) n hL (by unfold maxLen; omega) (by simp)
  unfold Gr
  have e1 : (Go.Proofs.YtdcomnnpnhinfaaDoor.zer n).length = n := by simp [Go.Proofs.YtdcomnnpnhinfaaDoor.zer]
  rw [e1]
  have e2 : (Go.Proofs.YtdcomnnpnhinfaaDoor.zer n).map (fun x => (.int .i64 x)) = (Array.replicate n (Value.int .i64 0)).toList := by simp [Go.Proofs.YtdcomnnpnhinfaaDoor.zer]
  rw [e2]
  exact h

def rowV (g N k : Nat) : Value := .slice (some ⟨g, k * N, none⟩) N N
def rowVs (g N M : Nat) : List Value := (List.range M).map (rowV g N)
theorem rowVs_len (g N M : Nat) : (rowVs g N M).length = M := by simp [rowVs]
theorem rowVs_at {g N M k : Nat} (h : k < M) : (rowVs g N M)[k]? = some (rowV g N k) := by simp [rowVs, h]
theorem rowVs_snoc (g N M : Nat) : rowVs g N (M + 1) = rowVs g N M ++ [rowV g N M] := by simp [rowVs, List.range_succ]
/-- The slice v has M rows of N numbers each, cut from the list in block g, which reads as xs. -/
structure Flat (w : World) (L : Nat) (v : Value) (g N M : Nat) (xs : List Int) : Prop where
  rows : w.ownsRow L 22 1 v M (rowVs g N M)
  flat : Gr w L (.slice (some ⟨g, 0, none⟩) (M * N) (M * N)) xs
  len : xs.length = M * N
theorem Flat.own {w w' : World} {L g N M : Nat} {v : Value} {xs : List Int} (h : Flat w L v g N M xs) (hb : Below w.heap.size w w') : Flat w' L v g N M xs :=
  ⟨kept_none h.rows (grow_below hb), h.flat.own hb, h.len⟩
theorem Flat.drew {w : World} {L g N M : Nat} {v : Value} {xs : List Int} (h : Flat w L v g N M xs) : Flat w.drew L v g N M xs := ⟨h.rows, h.flat, h.len⟩
theorem Flat.put {w w' : World} {L g N M : Nat} {v : Value} {xs ys : List Int} (h : Flat w L v g N M xs) (hg : w.grownBy w' (some g)) (hy : Gr w' L (.slice (some ⟨g, 0, none⟩) (M * N) (M * N)) ys) (hl : ys.length = M * N) : Flat w' L v g N M ys :=
  ⟨kept_apart types_ss h.rows h.flat (by simpa [Value.ownBlock] using hg), hy, hl⟩
theorem Flat.shape {w : World} {L g N M : Nat} {v : Value} {xs : List Int} (h : Flat w L v g N M xs) (hM : 0 < M) : ∃ h0 cap, v = .slice (some ⟨h0, 0, none⟩) M cap ∧ L ≤ h0 ∧ h0 < w.heap.size ∧ h0 ≠ g ∧ ∀ k, k < M → w.cell? ⟨h0, k, none⟩ = some (rowV g N k) := by
  have hr := h.rows
  obtain ⟨hl, ⟨rfl, h0⟩ | ⟨b, cap, cur, rfl, h1, h2, _⟩⟩ := h.rows
  · omega
  · refine ⟨b, cap, rfl, h1, (Array.getElem?_eq_some_iff.1 h2).1, ?_, fun k hk => ?_⟩
    · exact fun e => own_apart types_ss hr h.flat rfl (by rw [e]; rfl)
    · have := hr.cells rfl k (rowV g N k) (rowVs_at hk)
      rwa [add0] at this
theorem Flat.cells {w : World} {L g N M : Nat} {v : Value} {xs : List Int} (h : Flat w L v g N M xs) (hT : 0 < M * N) : L ≤ g ∧ g < w.heap.size ∧ ∀ q, q < M * N → w.cell? ⟨g, q, none⟩ = some (.int .i64 (xs.getD q 0)) ∧ w.frozen? ⟨g, q, none⟩ = false := by
  obtain ⟨g', e, h1, h2, h3⟩ := h.flat.cellsZ hT
  injection e with e
  injection e with e
  subst e
  exact ⟨h1, h2, h3⟩

/-- 'rows = append(rows, row)': the rows as values. -/
theorem appRow {ops : Array Oper} {rest : List Oper} {o : Oper} {a : Act} {Q : Exit → Act → World → Prop} (hgd : o.guard = none) (s x : Operand)
    (ho : o.op = .call { callee := .builtin .append, args := #[s, x], argTypes := #[49, 49] })
    (L : Nat) (w : World) (v : Value) (n : Nat) (vs : List Value) (r : Value) (hs : a.eval s = v) (hown : w.ownsRow L 22 1 v n vs)
    (h1c : r.oneCell' = true) (g : Nat) (hx : a.eval x = .slice (some ⟨g, 0, none⟩) 1 1) (hg : w.heap.size = g) (hlen : n ≤ 1000000) (hL : L ≤ w.heap.size)
    (h : ∀ v' w', w'.ownsRow L 22 1 v' (n + 1) (vs ++ [r]) → (w.alloc (.cells #[r] 22)).grownBy w' v.ownBlock → Below L w w' → wpList Tryd.prog ops Q rest (a.put o.dst v') w') : wpList Tryd.prog ops Q (o :: rest) a (w.alloc (.cells #[r] 22)) := by
  obtain ⟨i0, hi, hz0, hz1, hz2⟩ := info_parts info_row
  subst hg
  refine wpList_append_own _ hgd s x 49 ho L 22 i0 (.slice none 0 0) 1 24 Tryd.underlying49 hi hz0 hz1 hz2 rfl (by decide) v n _ hs (World.ownsRow.alloc hown _) ⟨w.heap.size, 0, none⟩ 1 1 [r] hx rfl ?_ ?_ ?_ ?_ ?_ ?_
  · intro j u hj
    match j, hj with
    | 0, hj => simp at hj; subst hj; simp [Addr.add]
  · intro u hu; simp at hu; subst hu; exact h1c
  · unfold maxLen; omega
  · omega
  · simp; omega
  · intro v' w' hown' hgrow _
    have hb : Below L w (w.alloc (.cells #[r] 22)) := (Below.refl L w).alloc hL _
    exact h v' w' hown' hgrow (hb.grown hgrow (by simp; omega) (fun j hj => (hown.lt j hj).1))
theorem slice3 (g T a b N : Nat) (h1 : a < b) (h2 : b ≤ T) (hN : b - a = N) (w : World) : Sem.run Tryd.prog (Instr.slice 22 (.slice (some ⟨g, 0, none⟩) T T) (some (.int .i64 (a : Int))) (some (.int .i64 (b : Int))) (some (.int .i64 (b : Int)))) w = .ok (.slice (some ⟨g, a, none⟩) N N) w := by
  have h3 : a ≤ b := by omega
  have h4 : b ≠ a := by omega
  simp [Instr.slice, Instr.sliceBounds, Instr.sliceBound, asIntOf, go_sem, h2, h3, h4, hN]
theorem row_made {w : World} {L g n : Nat} (hg : w.heap.size = g) (hL : L ≤ g) (hn : n ≤ 1000000) : (w.alloc (.cells (Array.replicate n rowZ) 22)).ownsRow L 22 1 (.slice (some ⟨g, 0, none⟩) 0 n) 0 [] := by
  subst hg
  exact World.ownsRow_made w _ n hL (by unfold maxLen; omega) (by simp)
theorem row_shape {w : World} {L n : Nat} {v : Value} {vs : List Value} {t : TypeId} (h : w.ownsRow L t 1 v n vs) : ∃ ad cap, v = .slice ad n cap := by
  obtain ⟨_, ⟨rfl, h0⟩ | ⟨g, cap, cur, rfl, _⟩⟩ := h
  · exact ⟨none, 0, by rw [h0]⟩
  · exact ⟨_, cap, rfl⟩

end Go.Proofs.YtdcomnnpnhinfaaDoor
