/- MixOfFraction: the numbers of a chain's matrices (what stands first lies also in XLed and XFlt: never import both), contracts of both sides, the walk of the law. -/
import Derived.Test.YtejghidllochoaaChF
import Derived.Test.YtejghidllochoaaLvC
import Derived.Test.YtejghidllochoaaCo
import Derived.Test.YtejghidllochoaaLnX
import Derived.Test.YtejghidllochoaaSl
import Derived.Test.YtejghidllochoaaB
import Derived.Test.YtejghidllochoaaF
import Derived.Laws.MakeOwn
namespace Go.Proofs.Ytejghidllochoaa
open Go.ChangeShapes Go.WideShapes Go.ChangeAt Go.RowKit

/-- the number of the coset of two numbers -/
def kOf (n x y : Int) : Nat := (ln n).idxOf (nrm n (rst x n) (rst y n))
theorem kOf_spec {n x y : Int} (h1 : 1 ≤ n) (hp : isP n x y = true) : kOf n x y < (ln n).length ∧ (ln n).getD (kOf n x y) (0, 0) = nrm n (rst x n) (rst y n) := by
  obtain ⟨K, hK, hg⟩ := nrm_in h1 hp
  have hm : nrm n (rst x n) (rst y n) ∈ ln n := by
    rw [← hg]
    simp only [List.getD, List.getElem?_eq_getElem hK, Option.getD_some]
    exact List.getElem_mem hK
  have hl := List.idxOf_lt_length_of_mem hm
  refine ⟨hl, ?_⟩
  unfold kOf
  simp only [List.getD, List.getElem?_eq_getElem hl, Option.getD_some]
  exact List.getElem_idxOf hl
theorem bezN (a b : Nat) : ∃ s t : Int, s * a + t * b = (Nat.gcd a b : Int) := by
  induction a, b using Nat.gcd.induction with
  | H0 b => exact ⟨0, 1, by simp⟩
  | H1 a b ha ih =>
    obtain ⟨s, t, h⟩ := ih
    refine ⟨t - s * (b / a : Nat), s, ?_⟩
    rw [Nat.gcd_rec, ← h]
    have e : ((b % a : Nat) : Int) = b - a * (b / a : Nat) := by
      have := congrArg (fun n : Nat => (n : Int)) (Nat.div_add_mod b a)
      simp only [Int.natCast_add, Int.natCast_mul] at this
      omega
    rw [e]
    grind
theorem inv_unit {u n : Int} (h : Int.gcd u n = 1) : ∃ v, n ∣ u * v - 1 := by
  obtain ⟨s, t, h2⟩ := bezN u.natAbs n.natAbs
  have h3 : Nat.gcd u.natAbs n.natAbs = 1 := h
  rw [h3] at h2
  have hu : (u.natAbs : Int) = u ∨ (u.natAbs : Int) = -u := by omega
  have hn : (n.natAbs : Int) = n ∨ (n.natAbs : Int) = -n := by omega
  rcases hu with e | e <;> rcases hn with f | f <;> rw [e, f] at h2
  · exact ⟨s, -t, by grind⟩
  · exact ⟨s, t, by grind⟩
  · exact ⟨-s, -t, by grind⟩
  · exact ⟨-s, t, by grind⟩
theorem unit_inv {u v n : Int} (h : n ∣ u * v - 1) : Int.gcd v n = 1 := by
  have h1 : ((Int.gcd v n : Nat) : Int) ∣ v := Int.gcd_dvd_left _ _
  have h2 : ((Int.gcd v n : Nat) : Int) ∣ n := Int.gcd_dvd_right _ _
  have h4 : ((Int.gcd v n : Nat) : Int) ∣ 1 := by
    have h5 := Int.dvd_sub (Int.dvd_trans h1 (Int.dvd_mul_left u v)) (Int.dvd_trans h2 h)
    rwa [show u * v - (u * v - 1) = 1 by omega] at h5
  have := Int.eq_one_of_dvd_one (by omega) h4
  omega
theorem emod_of_dvd {n x y : Int} (h : n ∣ x - y) : x % n = y % n := by
  rw [Int.emod_eq_emod_iff_emod_sub_eq_zero]
  exact Int.emod_eq_zero_of_dvd h
theorem dvd_emod (n x : Int) : n ∣ x % n - x := by
  have := Int.mul_ediv_add_emod x n
  exact ⟨-(x / n), by rw [Int.mul_neg]; omega⟩
theorem unit_mul {u v n : Int} (hu : Int.gcd u n = 1) (hv : Int.gcd v n = 1) : Int.gcd (u * v) n = 1 := by
  have h1 : Nat.Coprime u.natAbs n.natAbs := hu
  have h2 : Nat.Coprime v.natAbs n.natAbs := hv
  show Nat.gcd (u * v).natAbs n.natAbs = 1
  rw [Int.natAbs_mul]
  exact Nat.Coprime.mul_left h1 h2
/-- the normal pair of a multiple by a unit -/
theorem nrm_same {n x y u : Int} (h1 : 1 ≤ n) (hx : 0 ≤ x ∧ x < n) (hy : 0 ≤ y ∧ y < n) (hu : Int.gcd u n = 1) : nrm n (u * x % n) (u * y % n) = nrm n x y := by
  have rx : 0 ≤ u * x % n ∧ u * x % n < n := ⟨Int.emod_nonneg _ (by omega), Int.emod_lt_of_pos _ (by omega)⟩
  have ry : 0 ≤ u * y % n ∧ u * y % n < n := ⟨Int.emod_nonneg _ (by omega), Int.emod_lt_of_pos _ (by omega)⟩
  have e : ∀ t z : Int, t * (u * z % n) % n = t * u * z % n := fun t z => by rw [Int.mul_emod, Int.emod_emod, ← Int.mul_emod, Int.mul_assoc]
  obtain ⟨t, ht, hq⟩ := nrm_unit h1 rx ry
  obtain ⟨s, hs, hp⟩ := nrm_unit h1 hx hy
  obtain ⟨v, hv⟩ := inv_unit hu
  have hvu := unit_inv hv
  have a1 := nrm_low h1 hx hy (unit_mul ht hu)
  have a2 := nrm_low h1 rx ry (unit_mul hs hvu)
  rw [e, e] at a2
  have e2 : ∀ z : Int, s * v * u * z % n = s * z % n := fun z => by
    refine emod_of_dvd ?_
    obtain ⟨q, hq⟩ := hv
    exact ⟨s * z * q, by grind⟩
  rw [e2, e2] at a2
  rw [e, e] at hq
  rw [hp] at a1 ⊢
  rw [hq] at a2 ⊢
  obtain ⟨b1, b2⟩ := lss2_anti a2 a1
  exact Prod.ext b1.symm b2.symm
theorem kOf_congr {n x y x' y' : Int} (h1 : 1 ≤ n) (hx : n ∣ x - x') (hy : n ∣ y - y') : kOf n x y = kOf n x' y' := by
  unfold kOf
  rw [rst_emod _ _ h1, rst_emod _ _ h1, rst_emod _ _ h1, rst_emod _ _ h1, emod_of_dvd hx, emod_of_dvd hy]
theorem kOf_unit {n x y u : Int} (h1 : 1 ≤ n) (hu : Int.gcd u n = 1) : kOf n (u * x) (u * y) = kOf n x y := by
  unfold kOf
  rw [rst_emod _ _ h1, rst_emod _ _ h1, rst_emod _ _ h1, rst_emod _ _ h1]
  have e : ∀ z : Int, u * z % n = u * (z % n) % n := fun z => by rw [Int.mul_emod u (z % n), Int.emod_emod, ← Int.mul_emod]
  rw [e x, e y, nrm_same h1 ⟨Int.emod_nonneg _ (by omega), Int.emod_lt_of_pos _ (by omega)⟩ ⟨Int.emod_nonneg _ (by omega), Int.emod_lt_of_pos _ (by omega)⟩ hu]
/-- one more at the place i -/
def bmp (l : List Int) (i : Nat) : List Int := l.set i (l.getD i 0 + 1)
theorem bmp_len (l : List Int) (i : Nat) : (bmp l i).length = l.length := by simp [bmp]
theorem bmp_get {l : List Int} {i j : Nat} (hi : i < l.length) : (bmp l i).getD j 0 = l.getD j 0 + if j = i then 1 else 0 := by
  unfold bmp
  by_cases e : j = i
  · subst e
    simp [List.getD, hi]
  · simp [List.getD, List.getElem?_set_ne (Ne.symm e), e]
def zer (N : Nat) : List Int := List.replicate N 0
theorem zer_get (N q : Nat) : (zer N).getD q 0 = 0 := by
  unfold zer
  by_cases h : q < N
  · simp [List.getD, h]
  · simp [List.getD, h]

theorem madeCells_one (v : Value) (n : Nat) (hv : v.cells = #[v]) : madeCells v.cells ((n : Int).toNat * 1) = Array.replicate n v := by
  apply Array.ext
  · simp [size_madeCells]
  · intro i h1 h2
    simp [madeCells, hv, Nat.mod_one]
theorem made64 (n : Nat) (hn : n ≤ 1048576) (w : World) : (Instr.makeSlice 31 (.int .i64 n) (.int .i64 n)).run Try.prog w =
    .ok (.slice (some ⟨w.heap.size, 0, none⟩) n n) (w.alloc (.cells (Array.replicate n (.int .i64 0)) 2)) := by
  obtain ⟨i0, hi, hz0, hz1, hz2⟩ := info_parts info_i64
  have h := run_make (P := Try.prog) (w := w) 31 2 i0 (.int .i64 0) Try.underlying31 hi hz0 .i64 .i64 n n (by omega) (Int.le_refl _) (by rw [hz2]; omega) (by omega)
  rw [h, hz1, madeCells_one _ n rfl]
  simp
theorem Gr.zer {w : World} {L g : Nat} (hg : w.heap.size = g) (hL : L ≤ g) (n : Nat) (hn : n ≤ 1048576) : Gr (w.alloc (.cells (Array.replicate n (.int .i64 0)) 2)) L (.slice (some ⟨g, 0, none⟩) n n) (zer n) := by
  subst hg
  have h := World.ownsRow_lit (e := 2) (size := 1) (base := L) w (Array.replicate n (Value.int .i64 0)) n hL (by unfold maxLen; omega) (by simp)
  unfold Gr
  have e1 : (Go.Proofs.Ytejghidllochoaa.zer n).length = n := by simp [Go.Proofs.Ytejghidllochoaa.zer]
  rw [e1]
  have e2 : (Go.Proofs.Ytejghidllochoaa.zer n).map (fun x => (.int .i64 x)) = (Array.replicate n (Value.int .i64 0)).toList := by simp [Go.Proofs.Ytejghidllochoaa.zer]
  rw [e2]
  exact h

/-- the sign of a chain's k-th pair -/
def sg : Nat → Int
  | 0 => 1
  | k + 1 => - sg k
theorem sg_or : ∀ k, sg k = 1 ∨ sg k = -1
  | 0 => .inl rfl
  | k + 1 => by
    rcases sg_or k with h | h
    · exact .inr (by simp [sg, h])
    · exact .inl (by simp [sg, h])
theorem sg_sq (k : Nat) : sg k * sg k = 1 := by rcases sg_or k with h | h <;> simp [h]
theorem wrap64_ex (x : Int) : ∃ t : Int, wrap64 x = x + 18446744073709551616 * t := by
  unfold wrap64
  exact ⟨-((x + 9223372036854775808) / 18446744073709551616), by omega⟩
/-- what stands ahead of place k, and at it -/
theorem cst_take_succ {xs : List Int} {k : Nat} (hk : k < xs.length) : cst (xs.take (k + 1)) = ((cst (xs.take k)).2, stepC (cst (xs.take k)).1 (cst (xs.take k)).2 (xs.getD k 0)) := by
  rw [take_snoc xs k hk _ rfl, cst_snoc]
theorem det_cst {xs : List Int} (hall : (cvs xs).all okQ = true) : ∀ k, k ≤ xs.length → (Ent (cst (xs.take k)).2.1 ∧ Ent (cst (xs.take k)).2.2) ∧ (Ent (cst (xs.take k)).1.1 ∧ Ent (cst (xs.take k)).1.2) ∧ (cst (xs.take k)).2.1 * (cst (xs.take k)).1.2 - (cst (xs.take k)).2.2 * (cst (xs.take k)).1.1 = sg k
  | 0, _ => by
    simp [cst, sg, Ent]
  | k + 1, hk => by
    obtain ⟨⟨e1, e2⟩, ⟨e3, e4⟩, h⟩ := det_cst hall k (by omega)
    have hE := cst_okQ (done := xs.take k) (n := xs.getD k 0) hall (by rw [← take_snoc xs k (by omega) _ rfl]; exact List.take_prefix _ _)
    rw [← take_snoc xs k (by omega) _ rfl] at hE
    refine ⟨hE, ?_⟩
    rw [cst_take_succ (by omega)] at hE ⊢
    refine ⟨⟨e1, e2⟩, ?_⟩
    generalize cst (xs.take k) = a at *
    obtain ⟨⟨b1, b2⟩, p, q⟩ := a
    simp only [stepC] at *
    obtain ⟨t1, h1⟩ := wrap64_ex (xs.getD k 0 * p)
    obtain ⟨t2, h2⟩ := wrap64_ex (wrap64 (xs.getD k 0 * p) + b1)
    obtain ⟨t3, h3⟩ := wrap64_ex (xs.getD k 0 * q)
    obtain ⟨t4, h4⟩ := wrap64_ex (wrap64 (xs.getD k 0 * q) + b2)
    have m1 := ent_mul hE.1 e2
    have m2 := ent_mul hE.2 e1
    have hs := sg_or k
    have key : wrap64 (wrap64 (xs.getD k 0 * p) + b1) * q - wrap64 (wrap64 (xs.getD k 0 * q) + b2) * p + sg k = 18446744073709551616 * ((t1 + t2) * q - (t3 + t4) * p) := by
      rw [h2, h4, h1, h3, ← h]
      grind
    generalize (t1 + t2) * q - (t3 + t4) * p = z at key
    generalize wrap64 (wrap64 (xs.getD k 0 * p) + b1) * q = A at *
    generalize wrap64 (wrap64 (xs.getD k 0 * q) + b2) * p = B at *
    simp only [sg]
    omega
/-- the numbers of the chain's fraction k -/
def pd (xs : List Int) (k : Nat) : Int := (cst (xs.take k)).2.1
def qd (xs : List Int) (k : Nat) : Int := (cst (xs.take k)).2.2
theorem flatQ_getZ : ∀ (ps : List (Int × Int)) (k : Nat), k < ps.length → (flatQ ps).getD (2 * k) 0 = (ps.getD k (0, 0)).1 ∧ (flatQ ps).getD (2 * k + 1) 0 = (ps.getD k (0, 0)).2
  | [], k, h => by simp at h
  | p :: ps, 0, _ => by simp [flatQ]
  | p :: ps, k + 1, h => by
    have := flatQ_getZ ps k (by simpa using h)
    rw [show 2 * (k + 1) = 2 * k + 1 + 1 by omega]
    simpa [flatQ] using this
theorem chQ_get {xs : List Int} : ∀ {k : Nat}, k ≤ xs.length → (chQ xs).getD (2 * k) 0 = pd xs k ∧ (chQ xs).getD (2 * k + 1) 0 = qd xs k
  | 0, _ => by simp [chQ, pd, qd, cst]
  | k + 1, h => by
    have h1 := flatQ_getZ (cvs xs) k (by rw [cvs_len]; omega)
    have h2 : (cvs xs).getD k (0, 0) = (pd xs (k + 1), qd xs (k + 1)) := by
      simp [cvs, List.getD, show k < xs.length by omega, pd, qd]
    rw [h2] at h1
    rw [show 2 * (k + 1) = 2 * k + 1 + 1 by omega]
    simpa [chQ] using h1
theorem pq_ent {xs : List Int} (hall : (cvs xs).all okQ = true) {k : Nat} (hk : k ≤ xs.length) : Ent (pd xs k) ∧ Ent (qd xs k) := (det_cst hall k hk).1
theorem pq_det {xs : List Int} (hall : (cvs xs).all okQ = true) {k : Nat} (hk : k < xs.length) : pd xs (k + 1) * qd xs k - qd xs (k + 1) * pd xs k = sg (k + 1) := by
  have h := (det_cst hall (k + 1) (by omega)).2.2
  rw [cst_take_succ hk] at h
  have e1 : pd xs (k + 1) = (stepC (cst (xs.take k)).1 (cst (xs.take k)).2 (xs.getD k 0)).1 := by unfold pd; rw [cst_take_succ hk]
  have e2 : qd xs (k + 1) = (stepC (cst (xs.take k)).1 (cst (xs.take k)).2 (xs.getD k 0)).2 := by unfold qd; rw [cst_take_succ hk]
  rw [e1, e2]
  exact h
/-- the number of the matrix of the fractions k and k + 1 -/
def kM (n : Int) (xs : List Int) (k : Nat) : Nat := kOf n (sg (k + 1) * qd xs (k + 1)) (qd xs k)
theorem ent_sg {x : Int} (h : Ent x) (k : Nat) : Ent (sg k * x) := by
  rcases sg_or k with e | e <;> (rw [e]; unfold Ent at *; omega)
theorem kM_isM {xs : List Int} (hall : (cvs xs).all okQ = true) {k : Nat} (hk : k < xs.length) : isM (sg (k + 1) * pd xs (k + 1)) (pd xs k) (sg (k + 1) * qd xs (k + 1)) (qd xs k) = true := by
  have h := pq_det hall hk
  have a := pq_ent hall (k := k + 1) (by omega)
  have b := pq_ent hall (k := k) (by omega)
  have s := sg_sq (k + 1)
  have h2 : (sg (k + 1) * pd xs (k + 1)) * qd xs k - pd xs k * (sg (k + 1) * qd xs (k + 1)) = 1 := by grind
  exact decide_eq_true ⟨ent_sg a.1 _, b.1, ent_sg a.2 _, b.2, h2⟩
theorem kM_isM' {xs : List Int} (hall : (cvs xs).all okQ = true) {k : Nat} (hk : k < xs.length) : isM (pd xs (k + 1)) (sg (k + 1) * pd xs k) (qd xs (k + 1)) (sg (k + 1) * qd xs k) = true := by
  have h := pq_det hall hk
  have a := pq_ent hall (k := k + 1) (by omega)
  have b := pq_ent hall (k := k) (by omega)
  have s := sg_sq (k + 1)
  have h2 : pd xs (k + 1) * (sg (k + 1) * qd xs k) - (sg (k + 1) * pd xs k) * qd xs (k + 1) = 1 := by grind
  exact decide_eq_true ⟨a.1, ent_sg b.1 _, a.2, ent_sg b.2 _, h2⟩
theorem kM_eq {n : Int} (h1 : 1 ≤ n) (xs : List Int) (k : Nat) : kOf n (qd xs (k + 1)) (sg (k + 1) * qd xs k) = kM n xs k := by
  have hu : Int.gcd (sg (k + 1)) n = 1 := by rcases sg_or (k + 1) with e | e <;> simp [e]
  have h := kOf_unit (x := qd xs (k + 1)) (y := sg (k + 1) * qd xs k) h1 hu
  rw [← Int.mul_assoc, sg_sq, Int.one_mul] at h
  exact h.symm
def mixR (n : Int) (xs : List Int) (N : Nat) : Nat → List Int
  | 0 => zer N
  | k + 1 => bmp (mixR n xs N k) (kM n xs k)
theorem mixR_len (n : Int) (xs : List Int) (N : Nat) : ∀ k, (mixR n xs N k).length = N
  | 0 => by simp [mixR, zer]
  | k + 1 => by rw [mixR, bmp_len, mixR_len n xs N k]
theorem mixR_bd (n : Int) (xs : List Int) (N : Nat) : ∀ k q, 0 ≤ (mixR n xs N k).getD q 0 ∧ (mixR n xs N k).getD q 0 ≤ k
  | 0, q => by rw [mixR, zer_get]; omega
  | k + 1, q => by
    have h := mixR_bd n xs N k q
    rw [mixR]
    by_cases hi : kM n xs k < (mixR n xs N k).length
    · rw [bmp_get hi]
      split <;> omega
    · have e : bmp (mixR n xs N k) (kM n xs k) = mixR n xs N k := by unfold bmp; exact List.set_eq_of_length_le (by omega)
      rw [e]
      omega
theorem bmp_putM {w : World} {L g cap N k : Nat} {xs : List Int} {y : Int} (h : Gr w L (.slice (some ⟨g, 0, none⟩) N cap) xs) (hl : xs.length = N) (hk : k < N) (hy : xs.getD k 0 + 1 = y) :
    Gr (w.setCell ⟨g, k, none⟩ (.int .i64 y)) L (.slice (some ⟨g, 0, none⟩) N cap) (bmp xs k) := by
  have := Gr.putZ (k := k) (y := y) (show Gr w L (.slice (some ⟨g, 0, none⟩) xs.length cap) xs by rw [hl]; exact h) (by omega)
  rw [hl] at this
  unfold bmp
  rw [hy]
  exact this
theorem Gr.atM {w : World} {L B n cap k : Nat} {xs : List Int} (h : Gr w L (.slice (some ⟨B, 0, none⟩) n cap) xs) (hk : k < n) : w.cell? ⟨B, k, none⟩ = some (.int .i64 (xs.getD k 0)) ∧ w.frozen? ⟨B, k, none⟩ = false := by
  obtain ⟨g, e, _, _, hc⟩ := h.cellsZ (by omega)
  injection e with e
  injection e with e
  subst e
  exact hc k hk
theorem lv_line {n : Int} (hn : lvC n = 0) : 1 ≤ n ∧ n ≤ 60 ∧ (ln n).length ≤ 72 ∧ 0 < (ln n).length := by
  have hn' : 1 ≤ n ∧ n ≤ 60 := of_decide_eq_true (lvC_0 hn).1
  refine ⟨hn'.1, hn'.2, (lvC_len hn).2, ?_⟩
  obtain ⟨K, hK, _⟩ := nrm_in hn'.1 (show isP n 0 1 = true by simp [isP])
  omega
/-- what MixOfFraction gives -/
def RetX (xs : List Int) (k : Int) (w : World) (e : Ending) (w' : World) : Prop :=
  ∃ v, e = .returned (.tuple #[v, (.int .i64 k)]) ∧ Sl w' w.heap.size w'.heap.size v xs ∧ Below w.heap.size w w'
theorem specMx_bad (n p q : Int) (h : isF p q = false) (w : World) : Calls Try.prog 11 #[(.int .i64 n), (.agg #[.int .i64 p, .int .i64 q])] w (RetX [] 1 w) := by
  have H := Lib.hid h
  clear h
  go_enter Try.func11, Try.ntmps11
  go_wp2_with fail
  refine (l03F_is false _ _ H.out _).mono ?_
  rintro e w1 ⟨rfl, hb1⟩
  go_wp2
  go_ret2
  exact ⟨_, rfl, Sl.nil _ _ _ (Nat.le_refl _), by repeat (first | with_reducible exact own_refl _ | with_reducible assumption | with_reducible apply own_alloc | with_reducible apply own_drewN | with_reducible apply own_drew | ((with_reducible refine own_setCell ?_ ?_ _); rotate_left; focus (first | (simp; done) | (simp; omega))) | (with_reducible (refine own_trans ?_ (by assumption))))⟩
theorem specMx_no (n p q c : Int) (h : isF p q = true) (hc : lvC n = c) (h0 : c ≠ 0) (w : World) : Calls Try.prog 11 #[(.int .i64 n), (.agg #[.int .i64 p, .int .i64 q])] w (RetX [] c w) := by
  have H := Lib.hid h
  have HC := Lib.hid hc
  have hne : (c != 0) = true := by simpa using h0
  clear h hc h0
  go_enter Try.func11, Try.ntmps11
  go_wp2_with fail
  refine (l03F_is true _ _ H.out _).mono ?_
  rintro e w1 ⟨rfl, hb1⟩
  have T1 : Below w.heap.size w w1 := by repeat (first | with_reducible exact own_refl _ | with_reducible assumption | with_reducible apply own_alloc | with_reducible apply own_drewN | with_reducible apply own_drew | ((with_reducible refine own_setCell ?_ ?_ _); rotate_left; focus (first | (simp; done) | (simp; omega))) | (with_reducible (refine own_trans ?_ (by assumption))))
  go_wp2_with fail
  refine (l08Code_is n c HC.out _).mono ?_
  rintro e w2 ⟨rfl, hb2⟩
  go_wp2
  go_ret2
  exact ⟨_, rfl, Sl.nil _ _ _ (Nat.le_refl _), own_trans T1 hb2⟩
set_option maxHeartbeats 4000000 in
theorem specMx_yes (n p q : Int) (h : isF p q = true) (hc : lvC n = 0) (xs : List Int) (hx : cfL q.natAbs p q = xs) (hm : xs.length ≤ 100000) (N : Nat) (hN : (ln n).length = N) (w : World) : Calls Try.prog 11 #[(.int .i64 n), (.agg #[.int .i64 p, .int .i64 q])] w (RetX (mixR n xs N xs.length) 0 w) := by
  have hE := isF_ent h
  have hall := cv_fine q.natAbs p q hE.1 hE.2.1 hE.2.2.1
  rw [hx] at hall
  obtain ⟨h1, h2, h3, h4⟩ := lv_line hc
  rw [hN] at h3 h4
  have H := Lib.hid h
  have HC := Lib.hid hc
  have HA := Lib.hid hall
  have HL := Lib.hid (fun w => l06Line_is n h1 h2 w)
  have HK := Lib.hid (fun w => l08Chain_is p q h xs hx w)
  have HN := Lib.hid (show (ln n).length = N ∧ (prs (ln n)).length = N from ⟨hN, by simp [prs, hN]⟩)
  have hmk := made64 N (by omega)
  clear h hc hall hE hx hN
  go_enter Try.func11, Try.ntmps11
  go_wp2_with fail
  refine (l03F_is true _ _ H.out _).mono ?_
  rintro e w1 ⟨rfl, hb1⟩
  have A1 : Box w1 w.heap.size [.int .i64 p, .int .i64 q] := Box.below (Box.new _ _ _) hb1
  have T1 : Below w.heap.size w w1 := by repeat (first | with_reducible exact own_refl _ | with_reducible assumption | with_reducible apply own_alloc | with_reducible apply own_drewN | with_reducible apply own_drew | ((with_reducible refine own_setCell ?_ ?_ _); rotate_left; focus (first | (simp; done) | (simp; omega))) | (with_reducible (refine own_trans ?_ (by assumption))))
  go_wp2_with fail
  refine (l08Code_is n 0 HC.out _).mono ?_
  rintro e w2 ⟨rfl, hb2⟩
  have A2 := A1.below hb2
  have T2 := own_trans T1 hb2
  obtain ⟨_, _, _, _, _⟩ := A2.two
  have Tz : Below w.heap.size w w2.drew := own_drew T2
  have A2z : Box w2.drew w.heap.size [.int .i64 p, .int .i64 q] := A2.drew
  go_wp2_with fail
  go_region_held3 (fun w' => w'.cell? ⟨w.heap.size, 0, none⟩ = some (.int .i64 p) ∧ w'.cell? ⟨w.heap.size, 1, none⟩ = some (.int .i64 q)) (go_keep)
    (first
      | (go_at_call 24; refine (HL.out _).mono ?_; rintro e w3 ⟨v, rfl, hG3, hb3⟩; have T3 := own_trans Tz hb3; have A3 := A2z.below hb3; obtain ⟨_, _, _, _, _⟩ := A3.two; clear hb3)
      | (go_at_call 17; refine (HK.out _).mono ?_; rintro e w4 ⟨u, rfl, hF4, hb4⟩; have T4 := own_trans T3 hb4; have hG4 := hG3.own hb4; have A4 := A3.below hb4; obtain ⟨_, _, _, _, _⟩ := A4.two; clear hb4))
  have T5 : Below w.heap.size w w4 := T4
  clear T1 T2 T3 T4 Tz A1 A2 A2z A3 A4 hG3
  obtain ⟨ad, cap, hv⟩ := hG4.shape
  obtain ⟨ad', cap', hu⟩ := hF4.shape
  subst hv hu
  rw [HN.out.2] at hG4 ⊢
  obtain ⟨_, _, _, _, hu, hcu⟩ := hF4.sl
  injection hu with hu1 _ hu2
  subst hu1 hu2
  obtain ⟨gc, rfl, _, hgc, hcc⟩ := hcu (by omega)
  have HCC := Lib.hid hcc
  have HG4 := Lib.hid hG4
  clear hcu hcc hF4 hG4
  go_wp2
  have GS := Gr.zer (w := w4) rfl (Nat.le_refl _) N (by omega)
  have T0 : Below w4.heap.size w4 (w4.alloc (.cells (Array.replicate N (.int .i64 0)) 2)) := own_alloc (own_refl _) _
  generalize w4.alloc (.cells (Array.replicate N (.int .i64 0)) 2) = W0 at *
  go_loopw [10, 11] (fun s x wr => ∃ k : Nat, k ≤ xs.length ∧ x = (.int .i64 (((k + 1 : Nat) : Int))) ∧ s = (.int .i64 (sg (k + 1))) ∧ Gr wr w4.heap.size (.slice (some ⟨w4.heap.size, 0, none⟩) N N) (mixR n xs N k) ∧ Below w4.heap.size w4 wr) (fun _ x _ => xs.length + 1 - (intOf x).toNat)
  case atStart => exact ⟨0, Nat.zero_le _, rfl, rfl, GS, T0⟩
  case round =>
    clear GS T0
    obtain ⟨k, hk, rfl, rfl, hG, T⟩ := hrel
    by_cases hlt : k < xs.length
    · have hM := kM_isM HA.out hlt
      obtain ⟨_, _, e3, e4, _⟩ := isM_ent hM
      have hP := isM_isP (n := n) hM
      obtain ⟨p1, p2⟩ := kOf_spec h1 hP
      rw [HN.out.1] at p1
      have HKN := Lib.hid (fun v L w hG => l06Number_is n _ _ h1 h2 (ent_i64 e3) (ent_i64 e4) hP _ (by rw [HN.out.1]; exact p1) p2 v L w hG)
      have HMX : Hid (mixR n xs N (k + 1) = bmp (mixR n xs N k) (kM n xs k)) := Lib.hid rfl
      have g1 := chQ_get (xs := xs) (k := k) (by omega)
      have g2 := chQ_get (xs := xs) (k := k + 1) (by omega)
      have d1 := (HCC.out (k * 2 + 1) (by omega)).1
      have d2 := (HCC.out ((k + 1) * 2 + 1) (by omega)).1
      rw [Nat.mul_comm k 2, g1.2, Nat.mul_comm 2 k] at d1
      rw [Nat.mul_comm (k + 1) 2, g2.2, Nat.mul_comm 2 (k + 1)] at d2
      have d1 := Lib.hid d1
      have d2 := Lib.hid d2
      have c1 := (T.cell (p := ⟨gc, k * 2 + 1, none⟩) hgc).trans d1.out
      have c2 := (T.cell (p := ⟨gc, (k + 1) * 2 + 1, none⟩) hgc).trans d2.out
      have hbd := mixR_bd n xs N k (kM n xs k)
      have hln := mixR_len n xs N k
      unfold kM at HMX hbd
      have hq1 := (pq_ent HA.out (k := k + 1) (by omega)).2
      unfold Ent at e3 hq1
      have hsg := sg_or (k + 1)
      have HSG : Hid (sg (k + 1 + 1) = - sg (k + 1)) := Lib.hid rfl
      generalize qd xs (k + 1) = y at *
      generalize qd xs k = z at *
      generalize sg (k + 1) = s at *
      generalize kOf n (s * y) z = r at *
      generalize mixR n xs N k = ms at *
      obtain ⟨cr, fr⟩ := hG.atM p1
      obtain ⟨t, ht⟩ : ∃ t, ms.getD r 0 = t := ⟨_, rfl⟩
      rw [ht] at cr hbd
      have hwt : IntKind.i64.wrap (t + 1) = t + 1 := IntWalk.i64_in _ (by omega)
      have hws : IntKind.i64.wrap (-s) = -s := IntWalk.i64_in _ (by omega)
      have hwy : IntKind.i64.wrap (s * y) = s * y := IntWalk.i64_in _ (by omega)
      clear hM hP p2 g1 g2
      have hj1 : k + 1 < 1 + xs.length := by omega
      have hj2 : k < 1 + xs.length := by omega
      have hj3 : ((k + 1 : Nat) : Int) - 1 = (k : Int) := by omega
      have hj4 : k + 1 ≤ xs.length := by omega
      have hj5 : 1 ≤ k + 1 := by omega
      generalize hj : k + 1 = j at *
      have HJ := Lib.hid hj
      have hb0 : (0 : Int) ≤ (k : Int) := by omega
      have hb1 : (k : Int) < 1 + (xs.length : Int) := by omega
      have hne1 : gc ≠ w4.heap.size := by omega
      have hne2 : w4.heap.size ≠ gc := by omega
      have hjw : IntKind.i64.wrap (k : Int) = (k : Int) := IntWalk.i64_in _ (by omega)
      clear hj
      go_wp2_with fail
      go_region_with
        (first | (go_at_call 25; refine (HKN.out _ _ _ (HG4.out.own (by first | exact T | exact own_drew T))).mono ?_; rintro e w3 ⟨rfl, hb3⟩; have G3 : Gr w3 w4.heap.size (.slice (some ⟨w4.heap.size, 0, none⟩) N N) ms := (by first | exact hG.own hb3 | exact hG.drew.own hb3); have T3 : Below w4.heap.size w4 w3 := (by first | exact own_trans T hb3 | exact own_trans (own_drew T) hb3); obtain ⟨cr3, fr3⟩ := G3.atM p1; rw [ht] at cr3; have c13 := (T3.cell (p := ⟨gc, k * 2 + 1, none⟩) hgc).trans d1.out; have c23 := (T3.cell (p := ⟨gc, j * 2 + 1, none⟩) hgc).trans d2.out; clear hb3))
      all_goals
        go_wp2
        go_roundw
        case rel =>
          have G4 := bmp_putM G3 hln p1 (y := t + 1) (by rw [ht])
          rw [← HMX.out] at G4
          exact ⟨j, hj4, by go_num, by rw [HSG.out], by first | exact G4 | exact G4.drew, by first | exact own_setCell T3 (Nat.le_refl _) _ | exact own_drew (own_setCell T3 (Nat.le_refl _) _)⟩
        case measure => simp [intOf]; have := HJ.out; omega
    · have hkm : k = xs.length := by omega
      subst hkm
      go_wp2
      go_ret2
      refine ⟨_, rfl, (Gr.sl (ownsRow_weakZ hG T5.size)), own_trans T5 T⟩
set_option maxHeartbeats 1000000 in
theorem columns_is (p q s t D x y : Int) (hD : detF p q s t = D) (hd : D = 1 ∨ D = -1) (hx : D * s = x) (hy : D * t = y) (hp : Ent p) (hq : Ent q) (hs : Ent s) (ht : Ent t) (w : World) :
    Calls Try.prog 29 #[(.agg #[.int .i64 p, .int .i64 q]), (.agg #[.int .i64 s, .int .i64 t])] w fun e w' => e = .returned (.agg #[.int .i64 p, .int .i64 x, .int .i64 q, .int .i64 y]) ∧ Below w.heap.size w w' := by
  have HD := Lib.hid hD
  have HE := Lib.hid (show Ent p ∧ Ent q ∧ Ent s ∧ Ent t from ⟨hp, hq, hs, ht⟩)
  have bx : Ent x := by rcases hd with rfl | rfl <;> (unfold Ent at *; omega)
  have by' : Ent y := by rcases hd with rfl | rfl <;> (unfold Ent at *; omega)
  have b1 : -1000000000 ≤ D * s ∧ D * s ≤ 1000000000 := by rw [hx]; exact bx
  have b2 : -1000000000 ≤ D * t ∧ D * t ≤ 1000000000 := by rw [hy]; exact by'
  have HX := Lib.hid hx
  have HY := Lib.hid hy
  clear hD hx hy hp hq hs ht bx by' hd
  obtain ⟨_, _⟩ := b1
  obtain ⟨_, _⟩ := b2
  go_enter Try.func29, Try.ntmps29
  go_wp2_with fail
  refine (det_is p q s t D HD.out HE.out.1 HE.out.2.1 HE.out.2.2.1 HE.out.2.2.2 _).mono ?_
  rintro e w1 ⟨rfl, hb1⟩
  have A1 : Box w1 w.heap.size [.int .i64 p, .int .i64 q] := Box.below (Box.alloc (Box.alloc (Box.new _ _ _) _) _) hb1
  have B1 : Box w1 (w.heap.size + 1) [.int .i64 s, .int .i64 t] := Box.below (Box.alloc (Box.newAt (by simp) _ _) _) hb1
  have Z1 : Box w1 (w.heap.size + 1 + 1) [.int .i64 0, .int .i64 0, .int .i64 0, .int .i64 0] := Box.below (Box.newAt (by simp) _ _) hb1
  obtain ⟨_, _, _, _, _⟩ := A1.two
  obtain ⟨_, _, _, _, _⟩ := B1.two
  obtain ⟨_, _, _, _, _, _, _, _, _⟩ := Z1.four
  go_wp2
  obtain ⟨d0, d1, d2, d3⟩ := Z1.reads4 (.int .i64 p) (.int .i64 x) (.int .i64 q) (.int .i64 y)
  exact bodyPost_ret (v := (.agg #[.int .i64 p, .int .i64 x, .int .i64 q, .int .i64 y])) (by simp [results, Try.results29, go_sem, d0, d1, d2, d3, HX.out, HY.out]) rfl ⟨rfl, by repeat (first | with_reducible exact own_refl _ | with_reducible assumption | with_reducible apply own_alloc | with_reducible apply own_drewN | with_reducible apply own_drew | ((with_reducible refine own_setCell ?_ ?_ _); rotate_left; focus (first | (simp; done) | (simp; omega))) | (with_reducible (refine own_trans ?_ (by assumption))))⟩
theorem implCh_any (p q : Int) (h : isF p q = true) (xs : List Int) (hx : cfL q.natAbs p q = xs) (hn : xs.length ≤ 1000000) (w : World) : Calls Try.prog 7 #[(.agg #[.int .i64 p, .int .i64 q])] w (RetQc (1 + xs.length) (chQ xs) 0 w) := by
  have hE := isF_ent h
  rcases (show q = 0 ∨ 0 < q by omega) with hq | hq
  · have e : xs = [] := by rw [← hx, hq]; rfl
    subst e
    simpa [chQ, flatQ, cvs] using implChc_inf p q h hq w
  · exact implChc_yes p q h hq xs hx hn w
theorem mxC_z (n : Int) (xss : Nat → List Int) : mxC n 0 xss = lvC n := by
  unfold mxC
  split
  · rename_i h; rw [h]; rfl
  · rfl
theorem Mixes.none (w : World) (xss : Nat → List Int) : Mixes w (.slice none 0 0) 0 (fun _ => .slice none 0 0) xss := ⟨⟨Option.none, 0, rfl, fun h => by omega⟩, fun k h => by omega⟩
theorem code0_is (n c : Int) (hc : lvC n = c) (w : World) : Calls Try.prog 26 #[(.int .i64 n), .slice none 0 0] w fun e w' => e = .returned (.int .i64 c) ∧ Below w.heap.size w w' :=
  codeOfMixes_is n 0 (by omega) _ _ (fun _ => []) (fun _ h => by omega) c (by rw [mxC_z]; exact hc) w (Mixes.none w _)
theorem implMx_bad (n p q : Int) (h : isF p q = false) (w : World) : Calls Try.prog 12 #[(.int .i64 n), (.agg #[.int .i64 p, .int .i64 q])] w (RetX [] 1 w) := by
  have H := Lib.hid (fun w => implCh_no p q h w)
  clear h
  go_enter Try.func12, Try.ntmps12
  go_wp2_with fail
  refine (H.out _).mono ?_
  rintro e w1 ⟨v, rfl, hS, hb1⟩
  go_wp2
  go_ret2
  exact ⟨_, rfl, Sl.nil _ _ _ (Nat.le_refl _), by repeat (first | with_reducible exact own_refl _ | with_reducible assumption | with_reducible apply own_alloc | with_reducible apply own_drewN | with_reducible apply own_drew | ((with_reducible refine own_setCell ?_ ?_ _); rotate_left; focus (first | (simp; done) | (simp; omega))) | (with_reducible (refine own_trans ?_ (by assumption))))⟩
theorem implMx_no (n p q c : Int) (h : isF p q = true) (hc : lvC n = c) (h0 : c ≠ 0) (xs : List Int) (hx : cfL q.natAbs p q = xs) (hm : xs.length ≤ 100000) (w : World) : Calls Try.prog 12 #[(.int .i64 n), (.agg #[.int .i64 p, .int .i64 q])] w (RetX [] c w) := by
  have H := Lib.hid (fun w => implCh_any p q h xs hx (by omega) w)
  have HC := Lib.hid (fun w => code0_is n c hc w)
  have hne : (c != 0) = true := by simpa using h0
  clear h hc h0 hx
  go_enter Try.func12, Try.ntmps12
  go_wp2_with fail
  refine (H.out _).mono ?_
  rintro e w1 ⟨v, rfl, hS, hb1, _⟩
  have T1 : Below w.heap.size w w1 := by repeat (first | with_reducible exact own_refl _ | with_reducible assumption | with_reducible apply own_alloc | with_reducible apply own_drewN | with_reducible apply own_drew | ((with_reducible refine own_setCell ?_ ?_ _); rotate_left; focus (first | (simp; done) | (simp; omega))) | (with_reducible (refine own_trans ?_ (by assumption))))
  go_wp2_with fail
  refine (HC.out _).mono ?_
  rintro e w2 ⟨rfl, hb2⟩
  go_wp2
  go_ret2
  exact ⟨_, rfl, Sl.nil _ _ _ (Nat.le_refl _), own_trans T1 hb2⟩
set_option maxHeartbeats 4000000 in
theorem implMx_yes (n p q : Int) (h : isF p q = true) (hc : lvC n = 0) (xs : List Int) (hx : cfL q.natAbs p q = xs) (hm : xs.length ≤ 100000) (N : Nat) (hN : (ln n).length = N) (w : World) : Calls Try.prog 12 #[(.int .i64 n), (.agg #[.int .i64 p, .int .i64 q])] w (RetX (mixR n xs N xs.length) 0 w) := by
  have hE := isF_ent h
  have hall := cv_fine q.natAbs p q hE.1 hE.2.1 hE.2.2.1
  rw [hx] at hall
  obtain ⟨h1, h2, h3, h4⟩ := lv_line hc
  rw [hN] at h3 h4
  have H := Lib.hid (fun w => implCh_any p q h xs hx (by omega) w)
  have HC := Lib.hid (fun w => code0_is n 0 hc w)
  have HA := Lib.hid hall
  have HV := Lib.hid (fun w => levelOf_own n h1 h2 w)
  have HNB := Lib.hid (fun gu ou cu w hC => numbers_any n h1 h2 gu ou cu w hC)
  have HN := Lib.hid hN
  have hmk := made64 N (by omega)
  clear h hc hall hE hx hN
  go_enter Try.func12, Try.ntmps12
  go_wp2_with fail
  refine (H.out _).mono ?_
  rintro e w1 ⟨v, rfl, hS1, hb1, hcv⟩
  have T1 : Below w.heap.size w w1 := by repeat (first | with_reducible exact own_refl _ | with_reducible assumption | with_reducible apply own_alloc | with_reducible apply own_drewN | with_reducible apply own_drew | ((with_reducible refine own_setCell ?_ ?_ _); rotate_left; focus (first | (simp; done) | (simp; omega))) | (with_reducible (refine own_trans ?_ (by assumption))))
  go_wp2_with fail
  refine (HC.out _).mono ?_
  rintro e w2 ⟨rfl, hb2⟩
  have T2 := own_trans T1 hb2
  go_wp2_with fail
  refine (HV.out _).mono ?_
  rintro e w3 ⟨gu, ou, cu, rfl, hgu, hC3, hb3⟩
  have T3 := own_trans T2 hb3
  have hS3 := (hS1.own hb2).own hb3
  go_wp2_with fail
  have B8 : Box (w3.alloc (.cells #[(.int .i64 n), .slice (some ⟨gu, ou, none⟩) (cop n n.toNat).length cu] 51)) w3.heap.size [(.int .i64 n), .slice (some ⟨gu, ou, none⟩) (cop n n.toNat).length cu] := Box.new _ _ _
  have T8 : Below w.heap.size w (w3.alloc (.cells #[(.int .i64 n), .slice (some ⟨gu, ou, none⟩) (cop n n.toNat).length cu] 51)) := own_alloc T3 _
  have C8 := hC3.below (own_alloc (own_refl w3) (.cells #[(.int .i64 n), .slice (some ⟨gu, ou, none⟩) (cop n n.toNat).length cu] 51))
  have S8 := hS3.own (own_alloc (own_refl w3) (.cells #[(.int .i64 n), .slice (some ⟨gu, ou, none⟩) (cop n n.toNat).length cu] 51))
  obtain ⟨g8, hg8⟩ : ∃ g, w3.heap.size = g := ⟨_, rfl⟩
  rw [hg8] at B8 ⊢
  generalize w3.alloc (.cells #[(.int .i64 n), .slice (some ⟨gu, ou, none⟩) (cop n n.toNat).length cu] 51) = w8 at *
  refine (HNB.out _ _ _ _ C8).mono ?_
  rintro e w9 ⟨bm, rfl, _, hP9, hb9⟩
  have B9 := B8.below hb9
  have C9 := C8.below hb9
  have S9 := S8.own hb9
  have T9 := own_trans T8 hb9
  obtain ⟨_, _, ad, cap, rfl, hcc⟩ := S9
  obtain ⟨gc, rfl, _, hgc', hcc⟩ := hcc (by omega)
  have hcap : 1 + xs.length ≤ cap := hcv
  clear hcv
  have hz1 : ¬ xs.length = 0 → ¬ cap = 1 := fun _ => by omega
  have hgc : gc < w9.heap.size := by omega
  have HCC := Lib.hid hcc
  have hlen := hP9.len
  rw [HN.out] at hlen
  have HP := Lib.hid hP9
  have HB := Lib.hid B9
  have HCs := Lib.hid C9
  clear hS1 hb1 T1 hb2 T2 hgu hC3 hb3 T3 hS3 B8 T8 C8 S8 hb9 B9 C9 hP9 hcc hg8 hgc'
  have GS := Gr.zer (w := w9) rfl (Nat.le_refl _) N (by omega)
  have T0 : Below w9.heap.size w9 (w9.alloc (.cells (Array.replicate N (.int .i64 0)) 2)) := own_alloc (own_refl _) _
  by_cases hc1 : cap = 1
  · subst hc1
    have hm0 : xs.length = 0 := by omega
    have HM0 := Lib.hid hm0
    clear hm0 hz1
    go_wp2
    generalize w9.alloc (.cells (Array.replicate N (.int .i64 0)) 2) = W0 at *
    go_loopw [37] (fun x wr => x = (.int .i64 0) ∧ wr = W0) (fun _ _ => 0)
    case atStart => exact ⟨rfl, rfl⟩
    case round =>
      obtain ⟨rfl, rfl⟩ := hrel
      have hm1 : (xs.length : Int) = 0 := by have := HM0.out; omega
      go_wp2
      go_ret2
      have e : mixR n xs N xs.length = zer N := by rw [HM0.out]; rfl
      rw [e]
      exact ⟨_, rfl, Gr.sl (ownsRow_weakZ GS T9.size), own_trans T9 T0⟩
  · go_wp2
    generalize w9.alloc (.cells (Array.replicate N (.int .i64 0)) 2) = W0 at *
    go_loopw [37] (fun x wr => ∃ k : Nat, k ≤ xs.length ∧ x = (.int .i64 ((k : Int))) ∧ Gr wr w9.heap.size (.slice (some ⟨w9.heap.size, 0, none⟩) N N) (mixR n xs N k) ∧ Below w9.heap.size w9 wr) (fun x _ => xs.length - (intOf x).toNat)
    case atStart => exact ⟨0, Nat.zero_le _, rfl, GS, T0⟩
    case round =>
      clear GS T0
      obtain ⟨k, hk, rfl, hG, T⟩ := hrel
      by_cases hlt : k < xs.length
      · have hM := kM_isM' HA.out hlt
        obtain ⟨_, _, e3, e4, _⟩ := isM_ent hM
        have hP := isM_isP (n := n) hM
        obtain ⟨p1, p2⟩ := kOf_spec h1 hP
        rw [kM_eq h1] at p1 p2
        have HF := Lib.hid (fN_at (ln n) (kM n xs k) (ln_i64 h2) (ln_nodup n) p1)
        have HI := Lib.hid (ln_i64 h2 ((ln n).getD (kM n xs k) (0, 0)) (by simp only [List.getD, List.getElem?_eq_getElem p1, Option.getD_some]; exact List.getElem_mem p1))
        rw [HN.out] at p1
        have HNM := Lib.hid (fun lv w hL => normal_any n _ _ h1 h2 (ent_i64 e3) (ent_i64 e4) _ p2.symm lv w hL)
        have hdet := pq_det HA.out hlt
        have eA := pq_ent HA.out (k := k + 1) (by omega)
        have eB := pq_ent HA.out (k := k) (by omega)
        have HCL := Lib.hid (fun w => columns_is (pd xs (k + 1)) (qd xs (k + 1)) (pd xs k) (qd xs k) (sg (k + 1)) _ _ hdet (sg_or (k + 1)) rfl rfl eA.1 eA.2 eB.1 eB.2 w)
        have HMX : Hid (mixR n xs N (k + 1) = bmp (mixR n xs N k) (kM n xs k)) := Lib.hid rfl
        have g1 := chQ_get (xs := xs) (k := k) (by omega)
        have g2 := chQ_get (xs := xs) (k := k + 1) (by omega)
        have c1 := (T.cell (p := ⟨gc, k * 2, none⟩) hgc).trans (HCC.out (k * 2) (by omega)).1
        have c2 := (T.cell (p := ⟨gc, k * 2 + 1, none⟩) hgc).trans (HCC.out (k * 2 + 1) (by omega)).1
        have c3 := (T.cell (p := ⟨gc, 2 + k * 2, none⟩) hgc).trans (HCC.out (2 + k * 2) (by omega)).1
        have c4 := (T.cell (p := ⟨gc, 2 + k * 2 + 1, none⟩) hgc).trans (HCC.out (2 + k * 2 + 1) (by omega)).1
        rw [show (chQ xs).getD (k * 2) 0 = pd xs k by rw [Nat.mul_comm]; exact g1.1] at c1
        rw [show (chQ xs).getD (k * 2 + 1) 0 = qd xs k by rw [Nat.mul_comm]; exact g1.2] at c2
        rw [show (chQ xs).getD (2 + k * 2) 0 = pd xs (k + 1) by rw [show 2 + k * 2 = 2 * (k + 1) by omega]; exact g2.1] at c3
        rw [show (chQ xs).getD (2 + k * 2 + 1) 0 = qd xs (k + 1) by rw [show 2 + k * 2 + 1 = 2 * (k + 1) + 1 by omega]; exact g2.2] at c4
        have hbd := mixR_bd n xs N k (kM n xs k)
        have hln := mixR_len n xs N k
        have BL := HB.out.below T
        generalize (ln n).getD (kM n xs k) (0, 0) = rr at *
        generalize pd xs (k + 1) = a1 at *
        generalize qd xs (k + 1) = a2 at *
        generalize pd xs k = b1 at *
        generalize qd xs k = b2 at *
        generalize hs1 : sg (k + 1) * b1 = x1 at *
        generalize hs2 : sg (k + 1) * b2 = x2 at *
        generalize kM n xs k = r at *
        generalize mixR n xs N k = ms at *
        obtain ⟨t, ht⟩ : ∃ t, ms.getD r 0 = t := ⟨_, rfl⟩
        rw [ht] at hbd
        have hwt : IntKind.i64.wrap (t + 1) = t + 1 := IntWalk.i64_in _ (by omega)
        have hb0 : (0 : Int) ≤ (k : Int) := by omega
        have hb1 : (k : Int) < 1 + (xs.length : Int) := by omega
        clear hM hP p2 g1 g2 hdet hs1 hs2
        go_wp2_with fail
        have BG : Box (wr.alloc (.cells #[(.int .i64 a1), (.int .i64 a2)] 26)) wr.heap.size [(.int .i64 a1), (.int .i64 a2)] := Box.new _ _ _
        have T1 : Below w9.heap.size w9 (wr.alloc (.cells #[(.int .i64 a1), (.int .i64 a2)] 26)) := own_alloc T _
        have G1 : Gr (wr.alloc (.cells #[(.int .i64 a1), (.int .i64 a2)] 26)) w9.heap.size (.slice (some ⟨w9.heap.size, 0, none⟩) N N) ms := hG.alloc _
        have d1 : (wr.alloc (.cells #[(.int .i64 a1), (.int .i64 a2)] 26)).cell? ⟨gc, k * 2, none⟩ = some (.int .i64 b1) := ((own_alloc (own_refl wr) _).cell (p := ⟨gc, k * 2, none⟩) (by have := T.size; dsimp only; omega)).trans c1
        have d2 : (wr.alloc (.cells #[(.int .i64 a1), (.int .i64 a2)] 26)).cell? ⟨gc, k * 2 + 1, none⟩ = some (.int .i64 b2) := ((own_alloc (own_refl wr) _).cell (p := ⟨gc, k * 2 + 1, none⟩) (by have := T.size; dsimp only; omega)).trans c2
        obtain ⟨gb, hgb⟩ : ∃ g, wr.heap.size = g := ⟨_, rfl⟩
        have hgb2 : w9.heap.size ≤ gb := by rw [← hgb]; exact T.size
        rw [hgb] at BG ⊢
        generalize wr.alloc (.cells #[(.int .i64 a1), (.int .i64 a2)] 26) = W1 at *
        obtain ⟨_, _, _, _, _⟩ := BG.two
        have DD := Lib.hid (And.intro d1 d2)
        have BGH := Lib.hid BG
        have hgc1 : gc < W1.heap.size := by have := T1.size; omega
        have hgb1 : gb < W1.heap.size := BG.1
        have hn1 : W1.heap.size ≠ gb := by omega
        have hn2 : gb ≠ W1.heap.size := by omega
        have hn3 : W1.heap.size ≠ gc := by omega
        have hn4 : gc ≠ W1.heap.size := by omega
        clear c1 c2 c3 c4 hG hgb T BL BG
        go_region_held3 (fun w' => w'.cell? ⟨gb, 0, none⟩ = some (.int .i64 a1) ∧ w'.cell? ⟨gb, 1, none⟩ = some (.int .i64 a2) ∧ w'.cell? ⟨gc, k * 2, none⟩ = some (.int .i64 b1) ∧ w'.cell? ⟨gc, k * 2 + 1, none⟩ = some (.int .i64 b2)) (go_keep)
          (first
            | (go_at_call 29; refine (HCL.out _).mono ?_; rintro e w4 ⟨rfl, hb4⟩; have hb5 : Below W1.heap.size W1 w4 := (by first | exact own_trans (own_drew (own_refl _)) hb4 | exact own_trans (own_alloc (own_drew (own_refl _)) _) hb4); have BG4 := BGH.out.below hb5; obtain ⟨_, _, _, _, _⟩ := BG4.two; have d14 := (hb5.cell (p := ⟨gc, k * 2, none⟩) hgc1).trans DD.out.1; have d24 := (hb5.cell (p := ⟨gc, k * 2 + 1, none⟩) hgc1).trans DD.out.2; clear BG4; try (have BZ : Box w4 W1.heap.size [.int .i64 0, .int .i64 0, .int .i64 0, .int .i64 0] := Box.below (Box.new W1.drew _ _) hb4; obtain ⟨_, _, _, _, _, _, _, _, _⟩ := BZ.four)))
        all_goals
          first
            | (have BM := BZ.put4 (.int .i64 a1) (.int .i64 x1) (.int .i64 a2) (.int .i64 x2)
               have T5 : Below W1.heap.size W1 ((((w4.setCell ⟨W1.heap.size, 0, none⟩ (.int .i64 a1)).setCell ⟨W1.heap.size, 1, none⟩ (.int .i64 x1)).setCell ⟨W1.heap.size, 2, none⟩ (.int .i64 a2)).setCell ⟨W1.heap.size, 3, none⟩ (.int .i64 x2)) := own_setCell (own_setCell (own_setCell (own_setCell hb5 (Nat.le_refl _) _) (Nat.le_refl _) _) (Nat.le_refl _) _) (Nat.le_refl _) _
               generalize (((w4.setCell ⟨W1.heap.size, 0, none⟩ (.int .i64 a1)).setCell ⟨W1.heap.size, 1, none⟩ (.int .i64 x1)).setCell ⟨W1.heap.size, 2, none⟩ (.int .i64 a2)).setCell ⟨W1.heap.size, 3, none⟩ (.int .i64 x2) = W5 at *)
            | (have BM : Box (w4.alloc (.cells #[(.int .i64 a1), (.int .i64 x1), (.int .i64 a2), (.int .i64 x2)] 56)) w4.heap.size [.int .i64 a1, .int .i64 x1, .int .i64 a2, .int .i64 x2] := Box.new _ _ _
               have T5 : Below W1.heap.size W1 (w4.alloc (.cells #[(.int .i64 a1), (.int .i64 x1), (.int .i64 a2), (.int .i64 x2)] 56)) := own_alloc hb5 _
               generalize w4.alloc (.cells #[(.int .i64 a1), (.int .i64 x1), (.int .i64 a2), (.int .i64 x2)] 56) = W5 at *)
          have T95 := own_trans T1 T5
          have BL5 := HB.out.below T95
          have G5 := G1.own T5
          have HP5 := HP.out.below T95
          have C5 := HCs.out.below T95
          obtain ⟨_, _, _, _, _⟩ := BL5.two
          obtain ⟨_, _, _, _, _, _, _, _, _⟩ := BM.four
          go_wp2_with fail
          refine (HNM.out _ _ ⟨gu, ou, cu, rfl, C5⟩).mono ?_
          rintro e w6 ⟨rfl, hb6⟩
          have hlk := (HP5.below hb6).look rr HI.out.1 HI.out.2 (r : Int) HF.out
          simp only [prV] at hlk
          have G6 := G5.own hb6
          obtain ⟨cr, fr⟩ := G6.atM p1
          rw [ht] at cr
          have T6 := own_trans T95 hb6
          have G7 := bmp_putM G6 hln p1 (y := t + 1) (by rw [ht])
          rw [← HMX.out] at G7
          have T7 := own_setCell T6 (p := ⟨w9.heap.size, r, none⟩) (Nat.le_refl _) (.int .i64 (t + 1))
          go_wp2
          go_roundw
          case rel => exact ⟨k + 1, by omega, by go_num, G7, T7⟩
          case measure => simp [intOf]; omega
      · have hkm : k = xs.length := by omega
        subst hkm
        go_wp2
        go_ret2
        exact ⟨_, rfl, Gr.sl (ownsRow_weakZ hG T9.size), own_trans T9 T⟩
set_option maxHeartbeats 4000000 in
theorem lawMixOfFraction_of (n p q : Int) (xs : List Int) (k : Int) (hm : xs.length ≤ 100000)
    (hs : ∀ w : World, Calls Try.prog 11 #[(.int .i64 n), (.agg #[.int .i64 p, .int .i64 q])] w (RetX xs k w))
    (hi : ∀ w : World, Calls Try.prog 12 #[(.int .i64 n), (.agg #[.int .i64 p, .int .i64 q])] w (RetX xs k w)) (w : World) :
    Calls Try.prog 4 #[(.int .i64 n), (.agg #[.int .i64 p, .int .i64 q])] w fun e w' => e = .returned (.bool true) ∧ Below w.heap.size w w' := by
  have HS := Lib.hid hs
  have HI := Lib.hid hi
  clear hs hi
  go_enter Try.func4, Try.ntmps4
  go_wp2_with fail
  refine (toFraction_any _ _ _).mono ?_
  rintro e w1 ⟨rfl, hb1⟩
  have t1 : Below w.heap.size w w1 := by repeat (first | with_reducible exact own_refl _ | with_reducible assumption | with_reducible apply own_alloc | with_reducible apply own_drewN | with_reducible apply own_drew | ((with_reducible refine own_setCell ?_ ?_ _); rotate_left; focus (first | (simp; done) | (simp; omega))) | (with_reducible (refine own_trans ?_ (by assumption))))
  have A1 : Box w1 w.heap.size [.int .i64 p, .int .i64 q] := (Box.new _ _ _).below hb1
  obtain ⟨_, _, _, _, _⟩ := A1.two
  go_wp2_with fail
  refine (HS.out _).mono ?_
  rintro e w2 ⟨v0, rfl, s0, hb2⟩
  have t2 := own_trans t1 hb2
  have A2 := A1.below hb2
  obtain ⟨_, _, _, _, _⟩ := A2.two
  go_wp2_with fail
  refine (toFraction_any _ _ _).mono ?_
  rintro e w3 ⟨rfl, hb3⟩
  have t3 := own_trans t2 hb3
  have A3 := A2.below hb3
  have s0 := s0.own hb3
  go_wp2_with fail
  refine (HI.out _).mono ?_
  rintro e w4 ⟨v1, rfl, s1, hb4⟩
  have t4 := own_trans t3 hb4
  have A4 := A3.below hb4
  have s0 := s0.own hb4
  go_wp2_with fail
  refine (eqS_same _ _ xs _ _ _ _ _ (by omega) s1 s0).mono ?_
  rintro e w5 ⟨rfl, hb5⟩
  have t5 := own_trans t4 hb5
  have A5 := A4.below hb5
  have s0 := s0.own hb5
  have s1 := s1.own hb5
  have z1 := t1.size
  have z2 := hb2.size
  have z3 := hb3.size
  have z4 := hb4.size
  have z5 := hb5.size
  have zA := A1.1
  go_wp2_with fail
  refine (markS_any _ xs 1 _ _ _ (by omega) (by omega) (by omega) s1).mono ?_
  rintro e w6 ⟨rfl, s1, hb6⟩
  have s0 := s0.below (hb6.mono (by omega))
  have z6 := hb6.size
  have A6 : Box w6 w.heap.size [.int .i64 p, .int .i64 q] := A5.of_heap (hb6.block _ (by omega)) z6
  go_wp2_with fail
  refine (heldS_ramp _ 1 xs.length _ _ _ (by omega) (by omega) (by omega) s1).mono ?_
  rintro e w7 ⟨rfl, rfl⟩
  have t6 := t5.trans (hb6.mono (by omega))
  obtain ⟨_, _, _, _, _⟩ := A6.two
  go_wp2_with fail
  refine (toFraction_any _ _ _).mono ?_
  rintro e w8 ⟨rfl, hb8⟩
  have t8 := own_trans t6 hb8
  have s0 := s0.own hb8
  have s1 := s1.own hb8
  go_wp2_with fail
  refine (HI.out _).mono ?_
  rintro e w9 ⟨v2, rfl, s2, hb9⟩
  have t9 := own_trans t8 hb9
  have s0 := s0.own hb9
  have s1 := s1.own hb9
  go_wp2_with fail
  refine (eqS_same _ _ xs _ _ _ _ _ (by omega) s2 s0).mono ?_
  rintro e w10 ⟨rfl, hb10⟩
  have t10 := own_trans t9 hb10
  have s1 := s1.own hb10
  go_wp2_with fail
  refine (heldS_ramp _ 1 xs.length _ _ _ (by omega) (by omega) (by omega) s1).mono ?_
  rintro e w11 ⟨rfl, rfl⟩
  go_wp2
  go_ret
  exact ⟨rfl, t10⟩
theorem lawMixOfFraction_walk (n p q : Int) (_ : I64 n) (_ : I64 p) (_ : I64 q) (w : World) :
    Calls Try.prog 4 #[(.int .i64 n), (.agg #[.int .i64 p, .int .i64 q])] w fun e w' => e = .returned (.bool true) ∧ Below w.heap.size w w' := by
  rcases h : isF p q with _ | _
  · exact lawMixOfFraction_of n p q [] 1 (by simp) (fun w => specMx_bad n p q h w) (fun w => implMx_bad n p q h w) w
  · have hE := isF_ent h
    have hl : (cfL q.natAbs p q).length ≤ 100000 := by
      rcases (show q = 0 ∨ 0 < q by omega) with hq | hq
      · rw [hq]; simp [cfL]
      · have hb := hE.2.1
        unfold Ent at hb
        have := cf_short 30 q.natAbs p q (by omega) (by omega)
        omega
    by_cases hc : lvC n = 0
    · have h72 := (lvC_len hc).2
      exact lawMixOfFraction_of n p q _ 0 (by rw [mixR_len n _ (ln n).length]; omega) (fun w => specMx_yes n p q h hc _ rfl hl _ rfl w) (fun w => implMx_yes n p q h hc _ rfl hl _ rfl w) w
    · exact lawMixOfFraction_of n p q [] _ (by simp) (fun w => specMx_no n p q _ h rfl hc w) (fun w => implMx_no n p q _ h rfl hc _ rfl hl w) w
end Go.Proofs.Ytejghidllochoaa
