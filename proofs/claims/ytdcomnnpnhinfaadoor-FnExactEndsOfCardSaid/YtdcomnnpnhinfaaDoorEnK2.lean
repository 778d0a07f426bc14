/- The numbers of the cusps. Cycles of cosets under T, and the cusps' numbers: what both sides make of them. No program. The model's numbers of cusps. The model's CuspsOf. The source of draws: what it is in memory, and what a draw leaves of it. impl.cyclesOf at the numbers that T leads cosets to. A row of rows of one's own, sorted where it lies. CuspsOf of the program, and the walk of its law. -/
import Derived.Test.YtdcomnnpnhinfaaDoorKep
import Derived.Test.YtdcomnnpnhinfaaDoorLnO
import Derived.Test.YtdcomnnpnhinfaaDoorA
import Derived.Maps.AppendAt
import Derived.Test.YtdcomnnpnhinfaaDoorShs
import Derived.Test.YtdcomnnpnhinfaaDoorSS
import Derived.Sort.OwnSortedInts
/- The numbers of the cusps. -/
namespace Go.Proofs.YtdcomnnpnhinfaaDoor
open Go.ChangeShapes Go.WideShapes Go.ChangeAt Go.RowKit

/-- the coset to which T leads the coset at a number -/
def nxT (n : Int) (j : Nat) : Nat := kOf n ((ln n).getD j (0, 0)).1 (((ln n).getD j (0, 0)).1 + ((ln n).getD j (0, 0)).2)
/-- a cusp's number written along its cosets -/
def mrk (n : Int) (c : Int) : Nat → Nat → List Int → List Int
  | 0, _, o => o
  | f + 1, j, o => if o.getD j 0 < 0 then mrk n c f (nxT n j) (o.set j c) else o
def negs (o : List Int) : Nat := o.countP fun x => decide (x < 0)
theorem negs_set {o : List Int} {j : Nat} {c : Int} (hj : j < o.length) (h : o.getD j 0 < 0) (hc : 0 ≤ c) : negs (o.set j c) < negs o := by
  have h1 : o[j] < 0 := by simpa [List.getD, List.getElem?_eq_getElem hj] using h
  have h2 : 0 < o.countP fun x => decide (x < 0) := List.countP_pos_iff.2 ⟨o[j], List.getElem_mem hj, by simpa using h1⟩
  unfold negs
  rw [List.countP_set hj]
  simp [h1, show ¬ c < 0 by omega]
  omega
theorem mrk_yes {n c : Int} {f j : Nat} {o : List Int} (h : o.getD j 0 < 0) : mrk n c (f + 1) j o = mrk n c f (nxT n j) (o.set j c) := by rw [mrk, if_pos h]
theorem mrk_no {n c : Int} {f j : Nat} {o : List Int} (h : ¬ o.getD j 0 < 0) : mrk n c f j o = o := by
  cases f
  · rfl
  · rw [mrk, if_neg h]
theorem mrk_len {n c : Int} : ∀ {f j : Nat} {o : List Int}, (mrk n c f j o).length = o.length
  | 0, _, _ => rfl
  | f + 1, j, o => by
    rw [mrk]
    split
    · rw [mrk_len, List.length_set]
    · rfl
/-- the cusps' numbers, and how many there are, behind a number of cosets -/
def cus (n : Int) : Nat → List Int × Nat
  | 0 => (List.replicate (ln n).length (-1), 0)
  | k + 1 => if (cus n k).1.getD k 0 < 0 then (mrk n (cus n k).2 ((ln n).length + 1) k (cus n k).1, (cus n k).2 + 1) else cus n k
theorem cus_len (n : Int) : ∀ k, (cus n k).1.length = (ln n).length ∧ (cus n k).2 ≤ k
  | 0 => by simp [cus]
  | k + 1 => by
    obtain ⟨h1, h2⟩ := cus_len n k
    rw [cus]
    split
    · exact ⟨by simp only [mrk_len, h1], by simp only; omega⟩
    · exact ⟨h1, by omega⟩
theorem negs_le (o : List Int) : negs o ≤ o.length := List.countP_le_length
/-- what a block's cells read as -/
def rdI (w : World) (g N : Nat) : List Int := (List.range N).map fun k => intOf ((w.cell? ⟨g, k, none⟩).getD undef)
theorem rdI_is {w : World} {g N : Nat} {o : List Int} (hl : o.length = N) (h : ∀ k, k < N → w.cell? ⟨g, k, none⟩ = some (.int .i64 (o.getD k 0))) : rdI w g N = o := by
  refine List.ext_getElem (by simp [rdI, hl]) fun k h1 h2 => ?_
  have hk : k < N := by omega
  simp [rdI, h k hk, intOf, List.getD, List.getElem?_eq_getElem h2]
theorem nxT_at {n : Int} {j : Nat} (h1 : 1 ≤ n) (hj : j < (ln n).length) : nxT n j < (ln n).length ∧ (ln n).getD (nxT n j) (0, 0) = nrm n (rst ((ln n).getD j (0, 0)).1 n) (rst (((ln n).getD j (0, 0)).1 + ((ln n).getD j (0, 0)).2) n) ∧
    isP n ((ln n).getD j (0, 0)).1 (((ln n).getD j (0, 0)).1 + ((ln n).getD j (0, 0)).2) = true := by
  obtain ⟨m1, m2, m3, m4, m5⟩ := ln_at h1 hj
  unfold nxT
  generalize ((ln n).getD j (0, 0)).1 = p at *
  generalize ((ln n).getD j (0, 0)).2 = q at *
  have m5 : isP n p (p + q) = true := by
    unfold okP isP at *
    simp only [Bool.and_eq_true] at m5
    have e : Int.gcd p (p + q) = Int.gcd p q := by simp
    rw [e]
    exact m5.1
  obtain ⟨a, b⟩ := kOf_spec h1 m5
  exact ⟨a, b, m5⟩
end Go.Proofs.YtdcomnnpnhinfaaDoor
/- Cycles of cosets under T, and the cusps' numbers: what both sides make of them. No program. -/
namespace Go.Proofs.YtdcomnnpnhinfaaDoor
open Go.ChangeShapes Go.WideShapes Go.ChangeAt Go.RowKit

/-- the numbers that a cusp's walk meets -/
def cyL (n : Int) (c : Int) : Nat → Nat → List Int → List Int
  | 0, _, _ => []
  | f + 1, j, o => if o.getD j 0 < 0 then (j : Int) :: cyL n c f (nxT n j) (o.set j c) else []
/-- the cycles behind a number of cosets -/
def cys (n : Int) : Nat → List (List Int)
  | 0 => []
  | k + 1 => if (cus n k).1.getD k 0 < 0 then cys n k ++ [cyL n (cus n k).2 ((ln n).length + 1) k (cus n k).1] else cys n k
theorem cyL_yes {n c : Int} {f j : Nat} {o : List Int} (h : o.getD j 0 < 0) : cyL n c (f + 1) j o = (j : Int) :: cyL n c f (nxT n j) (o.set j c) := by rw [cyL, if_pos h]
theorem cyL_no {n c : Int} {f j : Nat} {o : List Int} (h : ¬ o.getD j 0 < 0) : cyL n c f j o = [] := by
  cases f
  · rfl
  · rw [cyL, if_neg h]
theorem getD_set {o : List Int} {i j : Nat} {c : Int} (hj : j < o.length) : (o.set j c).getD i 0 = if i = j then c else o.getD i 0 := by
  by_cases e : i = j
  · subst e; simp [List.getD, hj]
  · rw [if_neg e]; simp [List.getD, List.getElem?_set_ne (Ne.symm e)]
/-- what a walk leaves: the numbers met bear the cusp's number, the others what they bore -/
theorem walk_is {n c : Int} (h1 : 1 ≤ n) (hc : 0 ≤ c) : ∀ (f j : Nat) (o : List Int), j < o.length → o.length = (ln n).length →
    (cyL n c f j o).Nodup ∧ (∀ x ∈ cyL n c f j o, ∃ i : Nat, x = i ∧ i < o.length ∧ o.getD i 0 < 0) ∧
    (∀ i : Nat, i < o.length → (mrk n c f j o).getD i 0 = if (i : Int) ∈ cyL n c f j o then c else o.getD i 0)
  | 0, j, o, _, _ => by simp [cyL, mrk]
  | f + 1, j, o, hj, hl => by
    by_cases h : o.getD j 0 < 0
    · rw [cyL_yes h, mrk_yes h]
      have hn := (nxT_at h1 (show j < (ln n).length by omega)).1
      obtain ⟨r1, r2, r3⟩ := walk_is h1 hc f (nxT n j) (o.set j c) (by rw [List.length_set]; omega) (by rw [List.length_set]; exact hl)
      have hnot : (j : Int) ∉ cyL n c f (nxT n j) (o.set j c) := fun hm => by
        obtain ⟨i, e, _, hi⟩ := r2 _ hm
        have : i = j := by omega
        subst this
        rw [getD_set hj, if_pos rfl] at hi
        omega
      refine ⟨List.nodup_cons.2 ⟨hnot, r1⟩, ?_, ?_⟩
      · intro x hx
        rcases List.mem_cons.1 hx with rfl | hx
        · exact ⟨j, rfl, hj, h⟩
        · obtain ⟨i, e, hi, hi2⟩ := r2 x hx
          rw [List.length_set] at hi
          refine ⟨i, e, hi, ?_⟩
          rw [getD_set hj] at hi2
          split at hi2
          · omega
          · exact hi2
      · intro i hi
        rw [r3 i (by rw [List.length_set]; exact hi), getD_set hj]
        by_cases e : i = j
        · subst e; simp
        · have e' : (i : Int) ≠ j := by omega
          simp [e, e', List.mem_cons]
    · rw [cyL_no h, mrk_no h]
      exact ⟨List.nodup_nil, by simp, by simp⟩
/-- what holds behind a number of cosets -/
theorem cys_is {n : Int} (h1 : 1 ≤ n) : ∀ k : Nat, k ≤ (ln n).length →
    (cys n k).length = (cus n k).2 ∧ (∀ i : Nat, i < (ln n).length → -1 ≤ (cus n k).1.getD i 0 ∧ (cus n k).1.getD i 0 < (cus n k).2) ∧
    (∀ c : Nat, c < (cus n k).2 → ((cys n k).getD c []).Nodup ∧ (∀ x ∈ (cys n k).getD c [], ∃ i : Nat, x = i ∧ i < (ln n).length) ∧
      ∀ i : Nat, i < (ln n).length → ((i : Int) ∈ (cys n k).getD c [] ↔ (cus n k).1.getD i 0 = c))
  | 0, _ => by
    refine ⟨rfl, fun i hi => ?_, fun c hc => ?_⟩
    · simp [cus, List.getD, hi]
    · simp [cus] at hc
  | k + 1, hk => by
    obtain ⟨r1, r2, r3⟩ := cys_is h1 k (by omega)
    have hl := (cus_len n k).1
    rw [cus, cys]
    by_cases h : (cus n k).1.getD k 0 < 0
    · rw [if_pos h, if_pos h]
      obtain ⟨w1, w2, w3⟩ := walk_is (c := ((cus n k).2 : Int)) h1 (by omega) ((ln n).length + 1) k (cus n k).1 (by omega) hl
      generalize cyL n ((cus n k).2 : Int) ((ln n).length + 1) k (cus n k).1 = cy at *
      generalize mrk n ((cus n k).2 : Int) ((ln n).length + 1) k (cus n k).1 = o' at *
      generalize (cus n k).1 = o at *
      generalize (cus n k).2 = s at *
      refine ⟨by simp [r1], fun i hi => ?_, fun c hc => ?_⟩
      · have := r2 i hi
        rw [w3 i (by omega)]
        split <;> simp only [] <;> omega
      · simp only [] at hc ⊢
        by_cases e : c < s
        · have e1 : (cys n k ++ [cy]).getD c [] = (cys n k).getD c [] := by
            simp [List.getD, List.getElem?_append_left (show c < (cys n k).length by omega)]
          rw [e1]
          obtain ⟨q1, q2, q3⟩ := r3 c e
          refine ⟨q1, q2, fun i hi => ?_⟩
          rw [q3 i hi, w3 i (by omega)]
          by_cases hm : (i : Int) ∈ cy
          · rw [if_pos hm]
            obtain ⟨i', e2, _, hi'⟩ := w2 _ hm
            obtain rfl : i = i' := by omega
            constructor
            · intro h5; omega
            · intro h5; omega
          · rw [if_neg hm]
        · obtain rfl : c = s := by omega
          have e1 : (cys n k ++ [cy]).getD c [] = cy := by
            simp [List.getD, ← r1]
          rw [e1]
          refine ⟨w1, fun x hx => ?_, fun i hi => ?_⟩
          · obtain ⟨i, e2, h2, _⟩ := w2 x hx
            exact ⟨i, e2, by omega⟩
          · rw [w3 i (by omega)]
            by_cases hm : (i : Int) ∈ cy
            · simp [hm]
            · rw [if_neg hm]
              have := r2 i hi
              constructor
              · intro h5; exact absurd h5 hm
              · intro h5; omega
    · rw [if_neg h, if_neg h]
      exact ⟨r1, r2, r3⟩
/-- the numbers of cosets with a cusp's number, ascending, up to a bound -/
def rowC (o : List Int) (c : Int) : Nat → List Int
  | 0 => []
  | i + 1 => if o.getD i 0 = c then rowC o c i ++ [(i : Int)] else rowC o c i
theorem rowC_mem {o : List Int} {c : Int} : ∀ {N : Nat} {x : Int}, x ∈ rowC o c N ↔ ∃ i : Nat, x = i ∧ i < N ∧ o.getD i 0 = c
  | 0, x => by simp [rowC]
  | N + 1, x => by
    rw [rowC]
    split
    · rename_i h
      rw [List.mem_append, List.mem_singleton, rowC_mem]
      constructor
      · rintro (⟨i, e, h1, h2⟩ | rfl)
        · exact ⟨i, e, by omega, h2⟩
        · exact ⟨N, rfl, by omega, h⟩
      · rintro ⟨i, e, h1, h2⟩
        rcases (show i < N ∨ i = N by omega) with h3 | rfl
        · exact .inl ⟨i, e, h3, h2⟩
        · exact .inr e
    · rename_i h
      rw [rowC_mem]
      constructor
      · rintro ⟨i, e, h1, h2⟩
        exact ⟨i, e, by omega, h2⟩
      · rintro ⟨i, e, h1, h2⟩
        rcases (show i < N ∨ i = N by omega) with h3 | rfl
        · exact ⟨i, e, h3, h2⟩
        · exact absurd h2 h
theorem rowC_len {o : List Int} {c : Int} : ∀ N : Nat, (rowC o c N).length ≤ N
  | 0 => Nat.le_refl _
  | N + 1 => by
    have := rowC_len (o := o) (c := c) N
    rw [rowC]
    split <;> simp <;> omega
theorem rowC_sorted {o : List Int} {c : Int} : ∀ N : Nat, (rowC o c N).Pairwise (· < ·)
  | 0 => List.Pairwise.nil
  | N + 1 => by
    rw [rowC]
    split
    · refine List.pairwise_append.2 ⟨rowC_sorted N, List.pairwise_singleton _ _, fun a ha b hb => ?_⟩
      obtain ⟨i, e, h1, _⟩ := rowC_mem.1 ha
      have := List.mem_singleton.1 hb
      omega
    · exact rowC_sorted N
/-- two ascending lists of the same numbers are one -/
theorem asc_eq : ∀ {l l' : List Int}, l.Pairwise (· < ·) → l'.Pairwise (· < ·) → (∀ x, x ∈ l ↔ x ∈ l') → l = l'
  | [], [], _, _, _ => rfl
  | [], y :: l', _, _, h => by have := (h y).2 List.mem_cons_self; simp at this
  | x :: l, [], _, _, h => by have := (h x).1 List.mem_cons_self; simp at this
  | x :: l, y :: l', h1, h2, h => by
    have a1 := List.pairwise_cons.1 h1
    have a2 := List.pairwise_cons.1 h2
    have e : x = y := by
      rcases List.mem_cons.1 ((h x).1 List.mem_cons_self) with e | hx
      · exact e
      · rcases List.mem_cons.1 ((h y).2 List.mem_cons_self) with e | hy
        · exact e.symm
        · have := a1.1 y hy
          have := a2.1 x hx
          omega
    subst e
    rw [asc_eq a1.2 a2.2 fun z => ?_]
    constructor
    · intro hz
      rcases List.mem_cons.1 ((h z).1 (List.mem_cons_of_mem _ hz)) with e | hz'
      · have := a1.1 z hz; omega
      · exact hz'
    · intro hz
      rcases List.mem_cons.1 ((h z).2 (List.mem_cons_of_mem _ hz)) with e | hz'
      · have := a2.1 z hz; omega
      · exact hz'
def srt (l : List Int) : List Int := l.mergeSort fun x y => decide (x ≤ y)
theorem srt_asc {l : List Int} (hd : l.Nodup) : (srt l).Pairwise (· < ·) := by
  have h1 : (srt l).Pairwise fun x y => decide (x ≤ y) = true := List.pairwise_mergeSort (fun a b c => by simp; omega) (fun a b => by simp; omega) l
  have h2 : (srt l).Nodup := (List.mergeSort_perm l _).nodup_iff.2 hd
  refine (h1.and h2).imp fun {a b} h => ?_
  have h3 : a ≤ b := by simpa using h.1
  have h4 : a ≠ b := h.2
  omega
theorem srt_mem {l : List Int} {x : Int} : x ∈ srt l ↔ x ∈ l := (List.mergeSort_perm l _).mem_iff
/-- a cycle sorted is the cusp's row -/
theorem cycle_row {n : Int} (h1 : 1 ≤ n) {N c : Nat} (hN : (ln n).length = N) (hc : c < (cus n N).2) : srt ((cys n N).getD c []) = rowC (cus n N).1 c N := by
  obtain ⟨_, _, r3⟩ := cys_is h1 N (by omega)
  obtain ⟨q1, q2, q3⟩ := r3 c hc
  refine asc_eq (srt_asc q1) (rowC_sorted N) fun x => ?_
  rw [srt_mem, rowC_mem]
  constructor
  · intro hx
    obtain ⟨i, rfl, hi⟩ := q2 x hx
    exact ⟨i, rfl, by omega, (q3 i hi).1 hx⟩
  · rintro ⟨i, rfl, hi, ho⟩
    exact (q3 i (by omega)).2 ho
end Go.Proofs.YtdcomnnpnhinfaaDoor
/- The model's numbers of cusps. -/
namespace Go.Proofs.YtdcomnnpnhinfaaDoor
open Go.ChangeShapes Go.WideShapes Go.ChangeAt Go.RowKit

set_option maxRecDepth 100000 in
set_option maxHeartbeats 4000000 in
theorem l06Cusps_is (n : Int) (h1 : 1 ≤ n) (h2 : n ≤ 60) (v : Value) (L : Nat) (w : World) (hG : GrSS w L v (prs (ln n))) (N : Nat) (hN : (ln n).length = N) :
    Calls Tryd.prog 38 #[(.int .i64 n), v] w fun e w' => ∃ v', e = .returned (.tuple #[v', (.int .i64 (((cus n N).2 : Int)))]) ∧ Gr w' w.heap.size v' (cus n N).1 ∧ Below w.heap.size w w' := by
  have hpl : (prs (ln n)).length = N := by simp [prs, hN]
  have hNb : N ≤ 3600 := by rw [← hN]; exact ln_len h2
  obtain ⟨ad, cap, hv⟩ := hG.shape
  subst hv
  rw [hpl] at hG ⊢
  have HG := Lib.hid hG
  have HN := Lib.hid (And.intro hN hpl)
  have HB := Lib.hid (And.intro h1 h2)
  clear hG hN hpl
  go_enter Tryd.func38, Tryd.ntmps38
  go_wp2
  go_loopw [6, 8] (fun v i wr => ∃ k : Nat, k ≤ N ∧ i = (.int .i64 ((k : Int))) ∧ Gr wr w.heap.size v (List.replicate k (-1)) ∧ Below w.heap.size w wr) (fun _ i _ => N - (intOf i).toNat)
  case atStart => exact ⟨0, Nat.zero_le _, rfl, World.ownsRow_lit w #[] 0 (Nat.le_refl _) (by unfold maxLen; omega) rfl, by repeat (first | with_reducible exact own_refl _ | with_reducible assumption | with_reducible apply own_alloc | with_reducible apply own_drewN | with_reducible apply own_drew | ((with_reducible refine own_setCell ?_ ?_ _); rotate_left; focus (first | (simp; done) | (simp; omega))) | (with_reducible (refine own_trans ?_ (by assumption))))⟩
  case round =>
    obtain ⟨k, hk, rfl, hG, T⟩ := hrel
    have hz := T.size
    obtain ⟨c, hc⟩ : ∃ c, List.replicate k (-1 : Int) = c := ⟨_, rfl⟩
    have hcl : c.length = k := by rw [← hc]; simp
    have HC : Hid (c ++ [-1] = List.replicate (k + 1) (-1)) := Lib.hid (by rw [← hc, List.replicate_succ'])
    rw [hc] at hG
    have HE := Lib.hid hc
    clear hc
    obtain ⟨ad2, cap2, hv⟩ := hG.shape
    subst hv
    by_cases hlt : k < N
    · go_wp2_with (at_builtin; refine app64 rfl _ _ rfl w.heap.size wr (.slice ad2 c.length cap2) c (-1) rfl hG wr.heap.size rfl rfl (by omega) (by omega) ?_; intro v' w2 hG2 hb2)
      go_roundw
      case rel => exact ⟨k + 1, by omega, by go_num, by rw [← HC.out]; exact hG2, T.trans hb2⟩
      case measure => simp [intOf]; omega
    · obtain rfl : k = N := by omega
      have hN0 : 0 < k := by
        obtain ⟨K, hK, _⟩ := nrm_in HB.out.1 (show isP n 0 1 = true by simp [isP])
        have := HN.out.1
        omega
      rw [hcl] at hG ⊢
      obtain ⟨g, rfl, hg1, hg2, _⟩ := hG.cellsZ hN0
      have HCU : Hid ((cus n 0).1 = c ∧ (cus n 0).2 = 0) := Lib.hid (by rw [← HE.out]; simp [cus, HN.out.1])
      clear hlt
      go_wp2
      go_loopw [7, 9] (fun s i wr => ∃ j : Nat, j ≤ k ∧ i = (.int .i64 ((j : Int))) ∧ s = (.int .i64 (((cus n j).2 : Int))) ∧ Gr wr w.heap.size (.slice (some ⟨g, 0, none⟩) k cap2) (cus n j).1 ∧ Below w.heap.size w wr ∧ g < wr.heap.size) (fun _ i _ => k - (intOf i).toNat)
      case atStart => exact ⟨0, Nat.zero_le _, rfl, by rw [HCU.out.2]; rfl, by rw [HCU.out.1]; exact hG, T, hg2⟩
      case round =>
        obtain ⟨j, hj, rfl, rfl, hG, T, hgs⟩ := hrel
        have hcu := cus_len n j
        rw [HN.out.1] at hcu
        have HSU : Hid (cus n (j + 1) = if (cus n j).1.getD j 0 < 0 then (mrk n (cus n j).2 (k + 1) j (cus n j).1, (cus n j).2 + 1) else cus n j) := Lib.hid (by rw [cus, HN.out.1])
        obtain ⟨o, ho⟩ : ∃ o, (cus n j).1 = o := ⟨_, rfl⟩
        obtain ⟨s, hs⟩ : ∃ s, (cus n j).2 = s := ⟨_, rfl⟩
        have HO := Lib.hid (And.intro ho hs)
        rw [ho] at hG hcu HSU
        rw [hs] at hcu HSU ⊢
        clear ho hs
        obtain ⟨hol, hsl⟩ := hcu
        by_cases hlt2 : j < k
        · obtain ⟨x, hx⟩ : ∃ x, o.getD j 0 = x := ⟨_, rfl⟩
          obtain ⟨g', e', _, _, hc⟩ := hG.cellsZ hN0
          injection e' with e'
          injection e' with e'
          subst e'
          have ck := (hc j hlt2).1
          rw [hx] at ck
          clear hc
          by_cases hx0 : x < 0
          · have HSU : Hid (cus n (j + 1) = (mrk n s (k + 1) j o, s + 1)) := Lib.hid (by rw [HSU.out, hx, if_pos hx0])
            have f1 : decide (0 ≤ x) = false := decide_eq_false (by omega)
            clear hx
            go_wp2
            go_loopw [10] (fun a wr => ∃ (f m : Nat) (o2 : List Int), a = (.int .i64 ((m : Int))) ∧ m < k ∧ negs o2 < f ∧ o2.length = k ∧ Hid (mrk n s f m o2 = mrk n s (k + 1) j o) ∧ Gr wr w.heap.size (.slice (some ⟨g, 0, none⟩) k cap2) o2 ∧ Below w.heap.size w wr ∧ g < wr.heap.size) (fun _ wr => negs (rdI wr g k))
            case atStart => exact ⟨k + 1, j, o, rfl, hlt2, by have := negs_le o; omega, hol, Lib.hid rfl, hG, T, hgs⟩
            case round =>
              obtain ⟨f, m, o2, rfl, hm, hf, hol2, HM, hG2, T2, hgs2⟩ := hrel
              obtain ⟨y, hy⟩ : ∃ y, o2.getD m 0 = y := ⟨_, rfl⟩
              obtain ⟨g', e', _, _, hc⟩ := hG2.cellsZ hN0
              injection e' with e'
              injection e' with e'
              subst e'
              have HR := Lib.hid (rdI_is hol2 fun i hi => (hc i hi).1)
              obtain ⟨ck2, cf2⟩ := hc m hm
              rw [hy] at ck2
              clear hc
              by_cases hy0 : y < 0
              · obtain ⟨f, rfl⟩ : ∃ f', f = f' + 1 := ⟨f - 1, by omega⟩
                have HM2 : Hid (mrk n s f (nxT n m) (o2.set m s) = mrk n s (k + 1) j o) := Lib.hid (by rw [← HM.out, mrk_yes (by rw [hy]; exact hy0)])
                have HNG := Lib.hid (negs_set (o := o2) (j := m) (c := (s : Int)) (by omega) (by rw [hy]; exact hy0) (by omega))
                clear hy
                have hp : Gr (wr.setCell ⟨g, m, none⟩ (.int .i64 ((s : Int)))) w.heap.size (.slice (some ⟨g, 0, none⟩) k cap2) (o2.set m (s : Int)) := by
                  have h := Gr.putZ (k := m) (y := (s : Int)) (show Gr wr w.heap.size (.slice (some ⟨g, 0, none⟩) o2.length cap2) o2 by rw [hol2]; exact hG2) (by omega)
                  rw [hol2] at h
                  exact h
                have Tp : Below w.heap.size w (wr.setCell ⟨g, m, none⟩ (.int .i64 ((s : Int)))) := own_setCell T2 hg1 _
                have hgp : g < (wr.setCell ⟨g, m, none⟩ (.int .i64 ((s : Int)))).heap.size := by simpa using hgs2
                obtain ⟨vs, HV⟩ := HG.out.own Tp
                have hjx : m < (prs (ln n)).length := by rw [HN.out.2]; exact hm
                have hjl : m < (ln n).length := by rw [HN.out.1]; exact hm
                obtain ⟨gl, rfl, _, bl, hcl⟩ := HV.rowAt rfl (by omega)
                have c0 := hcl m hjx
                have hrow := HV.row hjx
                rw [prs_get hjl] at hrow
                obtain ⟨ad3, cap3, e3⟩ := hrow.shape
                rw [e3] at hrow c0
                obtain ⟨g3, rfl, _, b3, hc3⟩ := hrow.cellsZ (by simp)
                have c1 := (hc3 0 (by simp)).1
                have c2 := (hc3 1 (by simp)).1
                simp only [List.length_cons, List.length_nil, List.getD_cons_zero, List.getD_cons_succ, Nat.zero_add, Nat.reduceAdd] at c0 c1 c2
                clear hcl hc3 hrow e3
                obtain ⟨m1, m2, m3, m4, _⟩ := ln_at HB.out.1 hjl
                obtain ⟨hK, hat, hisp⟩ := nxT_at HB.out.1 hjl
                rw [HN.out.1] at hK
                have hn60 := HB.out
                generalize ((ln n).getD m (0, 0)).1 = p at *
                generalize ((ln n).getD m (0, 0)).2 = q at *
                have HA := Lib.hid (fun v L w hG => l06Number_is n p (p + q) HB.out.1 HB.out.2 (by unfold I64; omega) (by unfold I64; omega) hisp (nxT n m) (by rw [HN.out.1]; exact hK) hat v L w hG)
                have hw : IntKind.i64.wrap (p + q) = p + q := IntWalk.i64_in _ (by omega)
                clear hat hisp hjx hjl
                generalize nxT n m = K' at *
                go_wp2_with fail
                generalize wr.setCell ⟨g, m, none⟩ (.int .i64 ((s : Int))) = w5 at *
                go_region_held3 (fun w' => w'.cell? ⟨gl, m, none⟩ = some (.slice (some ⟨g3, 0, none⟩) 2 cap3) ∧ w'.cell? ⟨g3, 0, none⟩ = some (.int .i64 p) ∧ w'.cell? ⟨g3, 1, none⟩ = some (.int .i64 q)) (go_keep)
                  (first
                    | (go_at_call 31; refine (HA.out _ _ _ ⟨vs, HV.own (own_drew (own_refl _))⟩).mono ?_; rintro e w6 ⟨rfl, hb6⟩; have T6 := own_trans (own_drew Tp) hb6; have hp6 := (hp.drew).own hb6; have hg6 : g < w6.heap.size := Nat.lt_of_lt_of_le hgp hb6.size; have d0 := (hb6.cell (p := ⟨gl, m, none⟩) bl).trans c0; have d1 := (hb6.cell (p := ⟨g3, 0, none⟩) b3).trans c1; have d2 := (hb6.cell (p := ⟨g3, 1, none⟩) b3).trans c2; clear hb6))
                go_wp2
                go_roundw
                case rel => exact ⟨f, K', o2.set m (s : Int), rfl, hK, by have := HNG.out; omega, by simp [hol2], HM2, hp6, T6, hg6⟩
                case measure =>
                  obtain ⟨g', e', _, _, hc6⟩ := hp6.cellsZ hN0
                  injection e' with e'
                  injection e' with e'
                  subst e'
                  rw [rdI_is (by simp [hol2]) fun i hi => (hc6 i hi).1, HR.out]
                  exact HNG.out
              · have HM2 : Hid (o2 = mrk n s (k + 1) j o) := Lib.hid (by rw [← HM.out, mrk_no (by rw [hy]; exact hy0)])
                clear hy
                go_wp2
                go_roundw
                case rel => exact ⟨j + 1, by omega, by go_num, by rw [HSU.out]; go_num, by rw [HSU.out, ← HM2.out]; exact hG2, T2, hgs2⟩
                case measure => simp [intOf]; omega
          · have HSU : Hid (cus n (j + 1) = cus n j) := Lib.hid (by rw [HSU.out, hx, if_neg hx0])
            have f1 : decide (0 ≤ x) = true := decide_eq_true (by omega)
            clear hx
            go_wp2
            go_roundw
            case rel => exact ⟨j + 1, by omega, by go_num, by rw [HSU.out, HO.out.2], by rw [HSU.out, HO.out.1]; exact hG, T, hgs⟩
            case measure => simp [intOf]; omega
        · obtain rfl : j = k := by omega
          go_wp2
          go_ret2
          exact ⟨.slice (some ⟨g, 0, none⟩) j cap2, by rw [HO.out.2]; rfl, by rw [HO.out.1]; exact hG, T⟩
end Go.Proofs.YtdcomnnpnhinfaaDoor
/- The model's CuspsOf. -/
namespace Go.Proofs.YtdcomnnpnhinfaaDoor
open Go.ChangeShapes Go.WideShapes Go.ChangeAt Go.RowKit

/-- the rows of the cusps -/
def rowsC (o : List Int) (N : Nat) : Nat → List (List Int)
  | 0 => []
  | k + 1 => rowsC o N k ++ [rowC o k N]
theorem rowsC_len (o : List Int) (N : Nat) : ∀ k, (rowsC o N k).length = k
  | 0 => rfl
  | k + 1 => by simp [rowsC, rowsC_len o N k]
end Go.Proofs.YtdcomnnpnhinfaaDoor
/- The source of draws: what it is in memory, and what a draw leaves of it. -/
namespace Go.Proofs.YtdcomnnpnhinfaaDoor
open Go.ChangeShapes Go.WideShapes Go.ChangeAt Go.RowKit

/-- Only block g may have turned, and new ones may have come. -/
def DR (g : Nat) (w w' : World) : Prop := w.grownBy w' (some g)
theorem DR.refl (g : Nat) (w : World) : DR g w w := ⟨rfl, rfl, rfl, Nat.le_refl _, fun _ _ _ => rfl⟩
theorem DR.trans {g : Nat} {a b c : World} (h : DR g a b) (k : DR g b c) : DR g a c := World.grownBy.trans h k
theorem DR.below {g : Nat} {w w' : World} (h : Below w.heap.size w w') : DR g w w' := ⟨h.os, h.tape, h.output, h.size, fun k hk _ => h.block k hk⟩
theorem DR.drewN {g : Nat} {a w : World} (h : DR g a w) (n : Nat) : DR g a (w.drewN n) := ⟨h.1, h.2, h.3, h.4, h.5⟩
theorem DR.drew {g : Nat} {a w : World} (h : DR g a w) : DR g a w.drew := ⟨h.1, h.2, h.3, h.4, h.5⟩
theorem DR.size {g : Nat} {w w' : World} (h : DR g w w') : w.heap.size ≤ w'.heap.size := h.4
theorem DR.set {g : Nat} {a w : World} (h : DR g a w) (o : Nat) (u : Value) : DR g a (w.setCell ⟨g, o, none⟩ u) :=
  h.trans ⟨rfl, rfl, rfl, by simp [World.setCell], fun k _ hk => Below.heap_setCell w ⟨g, o, none⟩ u k (by dsimp only; intro e; exact hk (by rw [e]))⟩
theorem DR.box {g b : Nat} {w w' : World} {xs : List Value} (h : DR g w w') (hb : b ≠ g) (B : Box w b xs) : Box w' b xs := by
  have hk : w'.heap[b]? = w.heap[b]? := h.5 b B.1 (by intro e; exact hb (by injection e))
  refine ⟨Nat.lt_of_lt_of_le B.1 h.size, fun i v hv => ⟨?_, ?_⟩⟩
  · exact (World.cell?_of_block (w := w) (a := ⟨b, i, none⟩) hk).trans (B.2 i v hv).1
  · exact (World.frozen?_of_block (w := w) (a := ⟨b, i, none⟩) hk).trans (B.2 i v hv).2
theorem DR.cell {g b o : Nat} {w w' : World} (h : DR g w w') (hb : b ≠ g) (hl : b < w.heap.size) : w'.cell? ⟨b, o, none⟩ = w.cell? ⟨b, o, none⟩ :=
  World.cell?_of_block (w := w) (a := ⟨b, o, none⟩) (h.5 b hl (by intro e; exact hb (by injection e)))
theorem DR.belowL {g L : Nat} {a w w' : World} (T : Below L a w) (h : DR g w w') (hL : L ≤ w.heap.size) (hg : L ≤ g) : Below L a w' :=
  T.grown h hL (fun k e => by injection e with e; omega)

/-- A code: a slice of bytes, in a block ahead of block g. -/
def CodeR (w : World) (g : Nat) (cd : Value) : Prop := ∃ (ad : Option Addr) (n cap : Nat), cd = .slice ad n cap ∧ n ≤ 4294967296 ∧
  (0 < n → ∃ b off, ad = some ⟨b, off, none⟩ ∧ b < w.heap.size ∧ b < g ∧ ∀ k, k < n → ∃ x : Int, 0 ≤ x ∧ x ≤ 255 ∧ w.cell? ⟨b, off + k, none⟩ = some (.int .u8 x))
theorem CodeR.dr {g : Nat} {w w' : World} {cd : Value} (h : CodeR w g cd) (k : DR g w w') : CodeR w' g cd := by
  obtain ⟨ad, n, cap, rfl, hn, hc⟩ := h
  refine ⟨ad, n, cap, rfl, hn, fun h0 => ?_⟩
  obtain ⟨b, off, rfl, hb, hg, hx⟩ := hc h0
  refine ⟨b, off, rfl, Nat.lt_of_lt_of_le hb k.size, hg, fun i hi => ?_⟩
  obtain ⟨x, h1, h2, h3⟩ := hx i hi
  exact ⟨x, h1, h2, (k.cell (Nat.ne_of_lt hg) hb).trans h3⟩
/-- Block g is a source. -/
def Src (w : World) (g : Nat) : Prop := ∃ (cd : Value) (at_ : Nat) (h : Int), at_ ≤ 4294967296 ∧ 0 ≤ h ∧ h ≤ 18446744073709551615 ∧ Box w g [cd, .int .i64 (at_ : Int), .int .u64 h] ∧ CodeR w g cd
theorem Src.below {w w' : World} {g : Nat} (h : Src w g) (hb : Below w.heap.size w w') : Src w' g := by
  obtain ⟨cd, a, x, h1, h2, h3, h4, h5⟩ := h
  exact ⟨cd, a, x, h1, h2, h3, h4.below hb, h5.dr (DR.below hb)⟩
theorem Src.far {w : World} {g b o : Nat} {u : Value} (h : Src w g) (hb : g < b) : Src (w.setCell ⟨b, o, none⟩ u) g := by
  obtain ⟨cd, a, x, h1, h2, h3, h4, ad, n, cap, rfl, hn, hc⟩ := h
  refine ⟨_, a, x, h1, h2, h3, h4.far (by dsimp only; omega) _, ad, n, cap, rfl, hn, fun h0 => ?_⟩
  obtain ⟨b', off, rfl, hb', hg, hx⟩ := hc h0
  refine ⟨b', off, rfl, by simpa [World.setCell] using hb', hg, fun i hi => ?_⟩
  obtain ⟨y, y1, y2, y3⟩ := hx i hi
  refine ⟨y, y1, y2, ?_⟩
  rw [World.cell?_setCell_other _ _ _ _ (by intro e; injection e with e1 e2; omega)]
  exact y3
theorem DR.setNew {g : Nat} {a w : World} (h : DR g a w) {p : Addr} (hp : a.heap.size ≤ p.block) (u : Value) : DR g a (w.setCell p u) :=
  ⟨h.1, h.2, h.3, by have := h.4; simpa [World.setCell] using this, fun k hk hn => (Below.heap_setCell w p u k (by omega)).trans (h.5 k hk hn)⟩
theorem Src.alloc {w : World} {g : Nat} (h : Src w g) (o : Obj) : Src (w.alloc o) g := h.below (own_alloc (own_refl w) o)
theorem Box.three' {w : World} {g : Nat} {x0 x1 x2 : Value} (h : Box w g [x0, x1, x2]) :
    g < w.heap.size ∧ w.cell? ⟨g, 0, none⟩ = some x0 ∧ w.cell? ⟨g, 1, none⟩ = some x1 ∧ w.cell? ⟨g, 2, none⟩ = some x2 ∧
      w.frozen? ⟨g, 0, none⟩ = false ∧ w.frozen? ⟨g, 1, none⟩ = false ∧ w.frozen? ⟨g, 2, none⟩ = false :=
  ⟨h.1, (h.2 0 _ rfl).1, (h.2 1 _ rfl).1, (h.2 2 _ rfl).1, (h.2 0 _ rfl).2, (h.2 1 _ rfl).2, (h.2 2 _ rfl).2⟩

/-- What a draw of a number below n leaves. -/
def Num (n : Int) (g : Nat) (w : World) (e : Ending) (w' : World) : Prop := ∃ x : Int, e = .returned (.int .i64 x) ∧ 0 ≤ x ∧ (x < n ∨ x = 0) ∧ DR g w w' ∧ Src w' g

end Go.Proofs.YtdcomnnpnhinfaaDoor
/- impl.cyclesOf at the numbers that T leads cosets to. -/
namespace Go.Proofs.YtdcomnnpnhinfaaDoor
open Go.ChangeShapes Go.WideShapes Go.ChangeAt Go.RowKit

theorem info_boolC : (Tryd.prog.info? 4).map (fun i => (i.zero, i.size, i.bytes)) = some (some (.bool false), 1, 1) := by kernel_rfl
theorem madeB (n : Nat) (hn : n ≤ 1048576) (w : World) : (Instr.makeSlice 123 (.int .i64 n) (.int .i64 n)).run Tryd.prog w =
    .ok (.slice (some ⟨w.heap.size, 0, none⟩) n n) (w.alloc (.cells (Array.replicate n (Value.bool false)) 4)) := by
  obtain ⟨i0, hi, hz0, hz1, hz2⟩ := info_parts info_boolC
  have h := run_make (P := Tryd.prog) (w := w) 123 4 i0 (.bool false) Tryd.underlying123 hi hz0 .i64 .i64 n n (by omega) (Int.le_refl _) (by rw [hz2]; omega) (by omega)
  rw [h, hz1]
  have e : madeCells (Value.bool false).cells ((n : Int).toNat * 1) = Array.replicate n (Value.bool false) := by
    apply Array.ext
    · simp [size_madeCells]
    · intro i h1 h2
      simp [madeCells, Value.cells, Nat.mod_one]
  rw [e]
  simp
/-- which numbers are met -/
def metL (o : List Int) : List Value := o.map fun x => .bool (decide (0 ≤ x))
theorem metL_at {o : List Int} {i : Nat} (hi : i < o.length) : (metL o)[i]? = some (.bool (decide (0 ≤ o.getD i 0))) := by
  simp [metL, List.getD, List.getElem?_eq_getElem hi]
theorem metL_set {o : List Int} {j : Nat} {c : Int} (hc : 0 ≤ c) : metL (o.set j c) = (metL o).set j (.bool true) := by
  simp [metL, List.map_set, hc]
theorem kept_low {w w' : World} {L : Nat} {t : TypeId} {v : Value} {n : Nat} {xs : List Value} {row : Option Nat} (h : w.ownsRow L t 1 v n xs) (hg : w.grownBy w' row) (hr : ∀ r, row = some r → r < L) : w'.ownsRow L t 1 v n xs := by
  refine World.ownsRow.kept h hg ?_
  rcases e : v.ownBlock with _ | k
  · exact .inl rfl
  · exact .inr fun he => by have := hr k he.symm; have := (h.lt k e).1; omega
/-- A row joins the rows, where a block below them has turned since. -/
theorem snocK {wo w w' : World} {L gm : Nat} {v v' r : Value} {xss : List (List Int)} {xs : List Int} {vs : List Value} (hG : GrV wo L v vs xss) (hw : wo.grownBy w (some gm)) (hm : gm < L) (hr : Gr w L r xs)
    (hrb : ∀ k, r.ownBlock = some k → wo.heap.size ≤ k) (hown : w'.ownsRow L 22 1 v' (vs.length + 1) (vs ++ [r])) (hgr : w.grownBy w' v.ownBlock) : GrSS w' L v' (xss ++ [xs]) := by
  have hlow : ∀ r, (some gm : Option Nat) = some r → r < L := fun r e => by injection e with e; omega
  have hG' : GrV w L v vs xss := ⟨kept_low hG.1 hw hlow, hG.2.1, fun i hi => kept_low (hG.2.2.1 i hi) hw hlow, hG.2.2.2⟩
  obtain ⟨h1, h2, h3, h4⟩ := hG
  obtain ⟨h1w, _, h3w, _⟩ := hG'
  refine ⟨vs ++ [r], ?_, by simp [h2], fun i hi => ?_, fun i j hij hj g hg => ?_⟩
  · rw [List.length_append]; exact hown
  · simp only [List.length_append, List.length_cons, List.length_nil] at hi
    by_cases e : i < xss.length
    · have e1 : (vs ++ [r]).getD i rowZ = vs.getD i rowZ := by simp [List.getD, List.getElem?_append_left (show i < vs.length by omega)]
      have e2 : (xss ++ [xs]).getD i [] = xss.getD i [] := by simp [List.getD, List.getElem?_append_left e]
      rw [e1, e2]
      exact kept_apart (Ne.symm types_ss) (h3w i e) h1w hgr
    · obtain rfl : i = xss.length := by omega
      have e1 : (vs ++ [r]).getD xss.length rowZ = r := by simp [List.getD, ← h2]
      have e2 : (xss ++ [xs]).getD xss.length [] = xs := by simp [List.getD]
      rw [e1, e2]
      exact kept_apart (Ne.symm types_ss) hr h1w hgr
  · simp only [List.length_append, List.length_cons, List.length_nil] at hj
    have e1 : (vs ++ [r]).getD i rowZ = vs.getD i rowZ := by simp [List.getD, List.getElem?_append_left (show i < vs.length by omega)]
    rw [e1] at hg
    by_cases e : j < xss.length
    · have e2 : (vs ++ [r]).getD j rowZ = vs.getD j rowZ := by simp [List.getD, List.getElem?_append_left (show j < vs.length by omega)]
      rw [e2]
      exact h4 i j hij e g hg
    · obtain rfl : j = xss.length := by omega
      have e2 : (vs ++ [r]).getD xss.length rowZ = r := by simp [List.getD, ← h2]
      rw [e2]
      intro he
      have a := hrb g he
      have b := ((h3 i (by omega)).lt g hg).2
      omega
/-- 'xss = append(xss, row)', where a block below the rows has turned since the row was begun. -/
theorem appSSK {ops : Array Oper} {rest : List Oper} {o : Oper} {a : Act} {Q : Exit → Act → World → Prop} (hgd : o.guard = none) (s x : Operand)
    (ho : o.op = .call { callee := .builtin .append, args := #[s, x], argTypes := #[49, 49] })
    (L gm : Nat) (wo w : World) (v : Value) (xss : List (List Int)) (r : Value) (xs : List Int) (hs : a.eval s = v) (hown : GrSS wo L v xss) (hw : wo.grownBy w (some gm)) (hm : gm < L) (hr : Gr w L r xs) (hrb : ∀ k, r.ownBlock = some k → wo.heap.size ≤ k)
    (h1c : r.oneCell' = true) (g : Nat) (hx : a.eval x = .slice (some ⟨g, 0, none⟩) 1 1) (hg : w.heap.size = g) (hlen : xss.length ≤ 1000000) (hL : L ≤ w.heap.size)
    (h : ∀ v' w', GrSS w' L v' (xss ++ [xs]) → Below L w w' → wpList Tryd.prog ops Q rest (a.put o.dst v') w') : wpList Tryd.prog ops Q (o :: rest) a (w.alloc (.cells #[r] 22)) := by
  obtain ⟨i0, hi, hz0, hz1, hz2⟩ := info_parts info_row
  subst hg
  obtain ⟨vs, hV⟩ := hown
  have hvl : vs.length = xss.length := hV.2.1
  have hwn : wo.grownBy (w.alloc (.cells #[r] 22)) (some gm) := World.grownBy.trans hw ⟨rfl, rfl, rfl, by simp, fun k hk _ => Below.heap_alloc _ _ _ hk⟩
  have hlow : ∀ r, (some gm : Option Nat) = some r → r < L := fun r e => by injection e with e; omega
  refine wpList_append_own _ hgd s x 49 ho L 22 i0 (.slice none 0 0) 1 24 Tryd.underlying49 hi hz0 hz1 hz2 rfl (by decide) v vs.length _ hs (kept_low hV.1 hwn hlow) ⟨w.heap.size, 0, none⟩ 1 1 [r] hx rfl ?_ ?_ ?_ ?_ ?_ ?_
  · intro j u hj
    match j, hj with
    | 0, hj => simp at hj; subst hj; simp [Addr.add]
  · intro u hu; simp at hu; subst hu; exact h1c
  · unfold maxLen; omega
  · omega
  · simp; omega
  · intro v' w' hown' hgrow _
    refine h v' w' (snocK hV hwn hm (Gr.alloc hr _) hrb hown' hgrow) ?_
    have hb : Below L w (w.alloc (.cells #[r] 22)) := (Below.refl L w).alloc hL _
    exact hb.grown hgrow (by simp; omega) (fun j hj => (hV.1.lt j hj).1)
theorem cyL_snoc {n s : Int} {f m : Nat} {o : List Int} {pre all : List Int} (h : o.getD m 0 < 0) (e : pre ++ cyL n s (f + 1) m o = all) : (pre ++ [(m : Int)]) ++ cyL n s f (nxT n m) (o.set m s) = all := by
  rw [← e, cyL_yes h, List.append_assoc]
  rfl
theorem cyL_done {n s : Int} {f m : Nat} {o : List Int} {pre all : List Int} (h : ¬ o.getD m 0 < 0) (e : pre ++ cyL n s f m o = all) : pre = all := by
  rw [← e, cyL_no h, List.append_nil]
/-- what an own list of numbers leads to, as the program's list has it -/
def nxL (n : Int) (ld : List Int) (N : Nat) : Prop := ld.length = N ∧ ∀ i : Nat, i < N → ld.getD i 0 = (nxT n i : Int) ∧ nxT n i < N
/-- what the cycles' walk keeps -/
structure CK (w wM : World) (gm : Nat) (wr : World) (o : List Int) : Prop where
  below : Below w.heap.size w wr
  since : wM.grownBy wr (some gm)
  box : Box wr gm (metL o)
theorem grown_low {a b c : World} {B : Nat} {row : Option Nat} (h : a.grownBy b row) (hb : Below B b c) (hB : a.heap.size ≤ B) : a.grownBy c row :=
  ⟨hb.os.trans h.1, hb.tape.trans h.2, hb.output.trans h.3, Nat.le_trans h.4 hb.size, fun k hk hn => (hb.block k (by omega)).trans (h.5 k hk hn)⟩
theorem cyL_pos {n s : Int} {f m : Nat} {o : List Int} (h : o.getD m 0 < 0) : 0 < (cyL n s (f + 1) m o).length := by rw [cyL_yes h]; simp
set_option maxRecDepth 100000 in
set_option maxHeartbeats 4000000 in
theorem cyclesOf_is (n : Int) (N : Nat) (hN : (ln n).length = N) (hNb : N ≤ 3600) (hN0 : 0 < N) (ld : List Int) (hld : nxL n ld N) (v : Value) (L : Nat) (w : World) (hG : Gr w L v ld) :
    Calls Tryd.prog 71 #[v] w fun e w' => ∃ v', e = .returned v' ∧ GrSS w' w.heap.size v' (cys n N) ∧ Below w.heap.size w w' := by
  obtain ⟨ad, cap, hv⟩ := hG.shape
  subst hv
  rw [hld.1] at hG ⊢
  obtain ⟨gl, rfl, _, hgl, _⟩ := hG.cellsZ hN0
  have HG := Lib.hid hG
  have HLD := Lib.hid hld
  have HN := Lib.hid hN
  have hmk := fun w => madeB N (by omega) w
  have BM : Box (w.alloc (.cells (Array.replicate N (Value.bool false)) 4)) w.heap.size (metL (cus n 0).1) := by
    have e : metL (cus n 0).1 = List.replicate N (Value.bool false) := by simp [metL, cus, hN]
    have e2 : Array.replicate N (Value.bool false) = (List.replicate N (Value.bool false)).toArray := by simp
    rw [e, e2]
    exact Box.new _ _ _
  have TM := own_alloc (own_refl w) (.cells (Array.replicate N (Value.bool false)) 4)
  have hzM : (w.alloc (.cells (Array.replicate N (Value.bool false)) 4)).heap.size = w.heap.size + 1 := by simp
  clear hG hld hN
  go_enter Tryd.func71, Tryd.ntmps71
  go_wp2
  generalize w.alloc (.cells (Array.replicate N (Value.bool false)) 4) = wM at *
  go_loopw [3, 13] (fun v x wr => ∃ k : Nat, k ≤ N ∧ x = (.int .i64 ((k : Int))) ∧ CK w wM w.heap.size wr (cus n k).1 ∧ GrSS wr (w.heap.size + 1) v (cys n k)) (fun _ x _ => N - (intOf x).toNat)
  case atStart => exact ⟨0, Nat.zero_le _, rfl, ⟨TM, World.grownBy.refl _ _, BM⟩, GrSS.nil _ _⟩
  case round =>
    obtain ⟨k, hk, rfl, hC, hS⟩ := hrel
    have hcu := cus_len n k
    rw [HN.out] at hcu
    have HSU : Hid (cus n (k + 1) = if (cus n k).1.getD k 0 < 0 then (mrk n (cus n k).2 (N + 1) k (cus n k).1, (cus n k).2 + 1) else cus n k) := Lib.hid (by rw [cus, HN.out])
    have HCY : Hid (cys n (k + 1) = if (cus n k).1.getD k 0 < 0 then cys n k ++ [cyL n (cus n k).2 (N + 1) k (cus n k).1] else cys n k) := Lib.hid (by rw [cys, HN.out])
    obtain ⟨o, ho⟩ : ∃ o, (cus n k).1 = o := ⟨_, rfl⟩
    obtain ⟨s, hs⟩ : ∃ s, (cus n k).2 = s := ⟨_, rfl⟩
    obtain ⟨css, hcss⟩ : ∃ css, cys n k = css := ⟨_, rfl⟩
    have hcl : css.length ≤ 3600 := by
      have : ∀ k, (cys n k).length ≤ k := fun k => by
        induction k with
        | zero => simp [cys]
        | succ k ih =>
          rw [cys]
          split
          · rw [List.length_append]; simp; omega
          · omega
      have := this k
      rw [hcss] at this
      omega
    have HO := Lib.hid (And.intro ho (And.intro hs hcss))
    rw [ho] at hC hcu HSU HCY
    rw [hs] at hcu HSU HCY
    rw [hcss] at hS HCY
    clear ho hs hcss
    obtain ⟨hol, hsl⟩ := hcu
    obtain ⟨adc, capc, hv⟩ := hS.shape
    subst hv
    by_cases hlt : k < N
    · obtain ⟨q, hq⟩ : ∃ q : Int, (k : Int) = q := ⟨_, rfl⟩
      have HQ := Lib.hid hq
      have hq1 : 0 ≤ q ∧ q < (N : Int) := by omega
      have hqn : q.toNat = k := by omega
      obtain ⟨_, _⟩ := hq1
      obtain ⟨all, hall⟩ : ∃ all, cyL n s (N + 1) k o = all := ⟨_, rfl⟩
      have HA := Lib.hid hall
      have HC := Lib.hid hC
      have HS := Lib.hid hS
      rw [hq]
      have hzr := hC.below.size
      have hzo : w.heap.size < wr.heap.size := hC.box.1
      clear hq hS hC hqn
      go_wp2
      generalize wr = wo at *
      go_loopw [6, 7] (fun c a wr => ∃ (f m : Nat) (o2 pre : List Int), a = (.int .i64 ((m : Int))) ∧ m < N ∧ negs o2 < f ∧ o2.length = N ∧ pre.length + negs o2 ≤ N ∧
          Hid (mrk n s f m o2 = mrk n s (N + 1) k o ∧ pre ++ cyL n s f m o2 = all) ∧ CK w wM w.heap.size wr o2 ∧ wo.grownBy wr (some w.heap.size) ∧ Gr wr wo.heap.size c pre ∧ wo.heap.size ≤ wr.heap.size) (fun c _ _ => N - lenOf c)
      case atStart =>
        refine ⟨N + 1, k, o, [], by rw [HQ.out], hlt, by have := negs_le o; omega, hol, by have := negs_le o; simp; omega, Lib.hid ⟨rfl, by simpa using HA.out⟩, HC.out, World.grownBy.refl _ _, Gr.nil _ _, Nat.le_refl _⟩
      case round =>
        obtain ⟨f, m, o2, pre, rfl, hm, hf, hol2, hpn, HM, hC2, hgw, hF, hzz⟩ := hrel
        obtain ⟨y, hy⟩ : ∃ y, o2.getD m 0 = y := ⟨_, rfl⟩
        have ck := (hC2.box.2 m _ (metL_at (by omega)))
        rw [hy] at ck
        obtain ⟨ck1, ck2⟩ := ck
        obtain ⟨adp, capp, hv⟩ := hF.shape
        subst hv
        by_cases hy0 : y < 0
        · obtain ⟨f, rfl⟩ : ∃ f', f = f' + 1 := ⟨f - 1, by omega⟩
          have hneg : o2.getD m 0 < 0 := by rw [hy]; exact hy0
          have HNG := Lib.hid (negs_set (o := o2) (j := m) (c := (s : Int)) (by omega) hneg (by omega))
          have HM2 : Hid (mrk n s f (nxT n m) (o2.set m s) = mrk n s (N + 1) k o ∧ (pre ++ [(m : Int)]) ++ cyL n s f (nxT n m) (o2.set m s) = all) := Lib.hid ⟨by rw [← HM.out.1, mrk_yes hneg], cyL_snoc hneg HM.out.2⟩
          obtain ⟨hl1, hl2⟩ := HLD.out.2 m hm
          have e1 : decide (0 ≤ y) = false := decide_eq_false (by omega)
          rw [e1] at ck1
          have BS : Box (wr.setCell ⟨w.heap.size, m, none⟩ (.bool true)) w.heap.size (metL (o2.set m (s : Int))) := by
            rw [metL_set (by omega)]
            exact hC2.box.set m (by simp [metL]; omega) _
          have TS := own_setCell hC2.below (p := ⟨w.heap.size, m, none⟩) (Nat.le_refl _) (.bool true)
          have GS : wM.grownBy (wr.setCell ⟨w.heap.size, m, none⟩ (.bool true)) (some w.heap.size) := hC2.since.trans (grownBy_setZ _ _ _)
          have GO : wo.grownBy (wr.setCell ⟨w.heap.size, m, none⟩ (.bool true)) (some w.heap.size) := hgw.trans (grownBy_setZ _ _ _)
          have hFS : Gr (wr.setCell ⟨w.heap.size, m, none⟩ (.bool true)) wo.heap.size (.slice adp pre.length capp) pre := hF.set (by dsimp only; omega) _
          have hzS : wo.heap.size ≤ (wr.setCell ⟨w.heap.size, m, none⟩ (.bool true)).heap.size := by simpa [World.setCell] using hzz
          clear hy
          have hzw := HC.out.since.4
          have hcl3 : ∀ w3, Below wo.heap.size (wr.setCell ⟨w.heap.size, m, none⟩ (.bool true)) w3 → w3.cell? ⟨gl, m, none⟩ = some (.int .i64 ((nxT n m : Int))) := fun w3 hb3 => by
            obtain ⟨g', e', _, _, hc⟩ := HG.out.cellsZ hN0
            injection e' with e'
            injection e' with e'
            subst e'
            have c0 := (hc m hm).1
            rw [hl1] at c0
            exact ((hb3.cell (p := ⟨gl, m, none⟩) (by show gl < _; omega)).trans (TS.cell (p := ⟨gl, m, none⟩) hgl)).trans c0
          have HCL := Lib.hid hcl3
          clear hcl3 hl1
          go_wp2_with (at_builtin; refine app64 rfl _ _ rfl wo.heap.size (wr.setCell ⟨w.heap.size, m, none⟩ (.bool true)) (.slice adp pre.length capp) pre (m : Int) rfl hFS wr.heap.size rfl (by simp [World.setCell]) (by omega) (by omega) ?_; intro v' w3 hF3 hb3; have c3 := HCL.out w3 hb3)
          go_roundw
          case rel => exact ⟨f, nxT n m, o2.set m (s : Int), pre ++ [(m : Int)], rfl, hl2, by have := HNG.out; omega, by simp [hol2], by have := HNG.out; simp; omega, HM2, ⟨TS.trans (hb3.mono hzr), grown_low GS hb3 hzw, BS.low hb3 hzo⟩, grown_low GO hb3 (Nat.le_refl _), hF3, Nat.le_trans hzS hb3.size⟩
          case measure =>
            have h5 := hF3.len
            have := HNG.out
            rw [h5]
            simp only [lenOf, List.length_append, List.length_cons, List.length_nil]
            omega
        · have hE : pre = all := cyL_done (by rw [hy]; exact hy0) HM.out.2
          have hO : o2 = mrk n s (N + 1) k o := by rw [← HM.out.1, mrk_no (by rw [hy]; exact hy0)]
          have e1 : decide (0 ≤ y) = true := decide_eq_true (by omega)
          rw [e1] at ck1
          clear hy
          by_cases hx0 : o.getD k 0 < 0
          · have hap : 0 < all.length := by rw [← HA.out]; exact cyL_pos hx0
            have HSU2 : Hid (cus n (k + 1) = (o2, s + 1)) := Lib.hid (by rw [HSU.out, if_pos hx0, hO])
            have HCY2 : Hid (cys n (k + 1) = css ++ [pre]) := Lib.hid (by rw [HCY.out, if_pos hx0, HA.out, hE])
            rw [← hE] at hap
            clear hE hO hx0
            go_wp2_with (at_builtin; refine appSSK rfl _ _ rfl (w.heap.size + 1) w.heap.size wo wr (.slice adc css.length capc) css (.slice adp pre.length capp) pre rfl HS.out hgw (by omega) (ownsRow_weakZ hF hzo) (fun g hg => (World.ownsRow.lt hF g hg).1) rfl wr.heap.size rfl rfl (by omega) (by omega) ?_; intro v' w' hG2 hb2)
            go_roundw
            case rel => exact ⟨k + 1, by omega, by rw [← HQ.out]; go_num, by rw [HSU2.out]; exact ⟨hC2.below.trans (hb2.mono (by omega)), grown_low hC2.since hb2 (by omega), hC2.box.low hb2 (by omega)⟩, by rw [HCY2.out]; exact hG2⟩
            case measure => simp [intOf]; have := HQ.out; omega
          · have hae : all = [] := by rw [← HA.out]; exact cyL_no hx0
            have HSU2 : Hid (cus n (k + 1) = cus n k) := Lib.hid (by rw [HSU.out, if_neg hx0])
            have HCY2 : Hid (cys n (k + 1) = css) := Lib.hid (by rw [HCY.out, if_neg hx0])
            have hoo : Hid (o2 = o) := Lib.hid (by rw [hO, mrk_no hx0])
            have hpe : pre = [] := hE.trans hae
            subst hpe
            clear hE hO hx0 hae
            simp only [List.length_nil]
            have HS2 := HS.out.keptC hgw (fun r e => by injection e with e; omega)
            go_wp2
            go_roundw
            case rel => exact ⟨k + 1, by omega, by rw [← HQ.out]; go_num, by rw [HSU2.out, HO.out.1, ← hoo.out]; exact hC2, by rw [HCY2.out]; exact HS2⟩
            case measure => simp [intOf]; have := HQ.out; omega
    · obtain rfl : k = N := by omega
      go_wp2
      go_ret
      exact ⟨_, rfl, by rw [HO.out.2.2]; exact hS.weakZ (by omega), hC.below⟩
end Go.Proofs.YtdcomnnpnhinfaaDoor
/- A row of rows of one's own, sorted where it lies. -/
namespace Go.Proofs.YtdcomnnpnhinfaaDoor
open Go.ChangeShapes Go.WideShapes Go.ChangeAt Go.RowKit

theorem sort_own (v : Value) (xs : List Int) (L : Nat) (w : World) (h : Gr w L v xs) (hx : xs ≠ []) (hn : xs.length ≤ 9000000000) (hL : L ≤ w.heap.size) :
    Calls Tryd.prog 72 #[v] w fun e w' => e = .returned (.tuple #[]) ∧ Gr w' L v (srt xs) ∧ Below L w w' ∧ w.grownBy w' v.ownBlock := by
  have hv : v ≠ .slice none 0 0 := by
    rintro rfl
    have := h.len
    simp only [lenOf] at this
    exact hx (List.length_eq_zero_iff.1 this.symm)
  obtain ⟨g, cap, rfl, hg, hgw, _, _, _, hH⟩ := Lib.holds_of_ownsRow (enc := Value.int .i64) h hv
  refine (slices_Sort_int g 0 cap xs w hH hgw (by omega)).mono ?_
  rintro e w' ⟨rfl, n, os, rfl⟩
  have hl : (srt xs).length = xs.length := List.length_mergeSort _
  have hgb := grownBy_sortedI (w := w) (g := g) (n := n) (os := os) (srt xs).toArray
  obtain ⟨_, hc⟩ := id h
  rcases hc with ⟨e, _⟩ | ⟨g', cap', cur, e, h1, h2, h3, h4, h5, h6⟩
  · injection e with e; injection e
  · injection e with e1 e2 e3
    injection e1 with e1
    injection e1 with e1
    subst e1 e3
    refine ⟨rfl, ?_, ?_, hgb⟩
    · have r := ownsRow_sortedI (n := n) (os := os) (ts := srt xs) hl h1 h2 h3 h4 h5
      unfold Gr
      rw [hl]
      exact r
    · exact (Below.refl L w).grown hgb hL (fun k e => by injection e with e; omega)
/-- a row turned in its own block -/
theorem GrV.turn {w w' : World} {L j : Nat} {v : Value} {vs : List Value} {xss : List (List Int)} {ys : List Int} (h : GrV w L v vs xss) (hj : j < xss.length) (hr : Gr w' L (vs.getD j rowZ) ys) (hg : w.grownBy w' (vs.getD j rowZ).ownBlock) : GrV w' L v vs (xss.set j ys) := by
  obtain ⟨h1, h2, h3, h4⟩ := h
  refine ⟨kept_apart types_ss h1 (h3 j hj) hg, by simp [h2], fun i hi => ?_, fun a b hab hb => h4 a b hab (by simpa using hb)⟩
  rw [List.length_set] at hi
  by_cases e : i = j
  · subst e
    have e1 : (xss.set i ys).getD i [] = ys := by simp [List.getD, hi]
    rw [e1]
    exact hr
  · have e1 : (xss.set j ys).getD i [] = xss.getD i [] := by simp [List.getD, List.getElem?_set_ne (Ne.symm e)]
    rw [e1]
    refine World.ownsRow.kept (h3 i hi) hg ?_
    rcases eb : (vs.getD i rowZ).ownBlock with _ | k
    · exact .inl rfl
    · refine .inr fun he => ?_
      rcases Nat.lt_or_gt_of_ne e with hlt | hlt
      · exact h4 i j hlt hj k eb he.symm
      · exact h4 j i hlt hi k he.symm eb
/-- the first i rows sorted -/
def srtF (css : List (List Int)) (i : Nat) : List (List Int) := (css.take i).map srt ++ css.drop i
theorem srtF_len (css : List (List Int)) (i : Nat) : (srtF css i).length = css.length := by simp [srtF]; omega
theorem srtF_at {css : List (List Int)} {i : Nat} (hi : i < css.length) : (srtF css i).getD i [] = css.getD i [] := by
  simp [srtF, List.getD, List.getElem?_append_right, List.length_take, show min i css.length = i by omega, List.getElem?_drop]
theorem srtF_step {css : List (List Int)} {i : Nat} (hi : i < css.length) : srtF css (i + 1) = (srtF css i).set i (srt (css.getD i [])) := by
  unfold srtF
  have e : i - ((css.take i).map srt).length = 0 := by simp; omega
  rw [List.take_succ_eq_append_getElem hi, List.map_append, List.set_append_right _ _ (by simp; omega), e, List.drop_eq_getElem_cons hi, List.set_cons_zero]
  have e2 : css.getD i [] = css[i] := by simp [List.getD, List.getElem?_eq_getElem hi]
  rw [e2, List.append_assoc]
  rfl
theorem srtF_end (css : List (List Int)) : srtF css css.length = css.map srt := by simp [srtF]
theorem cys_some (n : Int) : ∀ (k c : Nat), c < (cys n k).length → (cys n k).getD c [] ≠ []
  | 0, c, h => by simp [cys] at h
  | k + 1, c, h => by
    rw [cys] at h ⊢
    by_cases e : (cus n k).1.getD k 0 < 0
    · rw [if_pos e] at h ⊢
      rw [List.length_append] at h
      simp only [List.length_cons, List.length_nil] at h
      by_cases hc : c < (cys n k).length
      · have e1 : ∀ z, (cys n k ++ [z]).getD c [] = (cys n k).getD c [] := fun z => by simp [List.getD, List.getElem?_append_left hc]
        rw [e1]
        exact cys_some n k c hc
      · obtain rfl : c = (cys n k).length := by omega
        have e1 : ∀ z : List Int, (cys n k ++ [z]).getD (cys n k).length [] = z := fun z => by simp [List.getD]
        rw [e1, cyL_yes e]
        simp
    · rw [if_neg e] at h ⊢
      exact cys_some n k c h
theorem rowsC_at (o : List Int) (N : Nat) : ∀ (k c : Nat), c < k → (rowsC o N k).getD c [] = rowC o c N
  | 0, c, h => by omega
  | k + 1, c, h => by
    rw [rowsC]
    by_cases e : c < k
    · have e1 : ∀ z, (rowsC o N k ++ [z]).getD c [] = (rowsC o N k).getD c [] := fun z => by
        simp [List.getD, List.getElem?_append_left (show c < (rowsC o N k).length by rw [rowsC_len]; exact e)]
      rw [e1]
      exact rowsC_at o N k c e
    · obtain rfl : c = k := by omega
      have hl := rowsC_len o N c
      have e1 : ∀ z : List Int, (rowsC o N c ++ [z]).getD c [] = z := fun z => by
        simp [List.getD, hl]
      rw [e1]
/-- the cycles sorted are the rows of the cusps -/
theorem cys_rows {n : Int} (h1 : 1 ≤ n) {N : Nat} (hN : (ln n).length = N) : (cys n N).map srt = rowsC (cus n N).1 N (cus n N).2 := by
  obtain ⟨hl, _, _⟩ := cys_is h1 N (by omega)
  refine List.ext_getElem (by rw [List.length_map, rowsC_len, hl]) fun c hc1 hc2 => ?_
  rw [List.length_map] at hc1
  have a := cycle_row h1 hN (c := c) (by omega)
  have b := rowsC_at (cus n N).1 N (cus n N).2 c (by omega)
  have e1 : (cys n N).getD c [] = (cys n N)[c] := by simp [List.getD, List.getElem?_eq_getElem hc1]
  have e2 : (rowsC (cus n N).1 N (cus n N).2).getD c [] = (rowsC (cus n N).1 N (cus n N).2)[c] := by simp [List.getD, List.getElem?_eq_getElem hc2]
  rw [List.getElem_map, ← e1, ← e2, a, b]
end Go.Proofs.YtdcomnnpnhinfaaDoor
/- CuspsOf of the program, and the walk of its law. -/
namespace Go.Proofs.YtdcomnnpnhinfaaDoor
open Go.ChangeShapes Go.WideShapes Go.ChangeAt Go.RowKit

theorem powT_one (w : World) : Calls Tryd.prog 36 #[(.int .i64 1)] w fun e w' => e = .returned (.agg #[.int .i64 1, .int .i64 1, .int .i64 0, .int .i64 1]) ∧ Below w.heap.size w w' := by
  go_enter Tryd.func36, Tryd.ntmps36
  go_wp2
  exact bodyPost_ret (v := (.agg #[.int .i64 1, .int .i64 1, .int .i64 0, .int .i64 1])) (by simp [results, Tryd.results36, go_sem]) rfl ⟨rfl, by repeat (first | with_reducible exact own_refl _ | with_reducible assumption | with_reducible apply own_alloc | with_reducible apply own_drewN | with_reducible apply own_drew | ((with_reducible refine own_setCell ?_ ?_ _); rotate_left; focus (first | (simp; done) | (simp; omega))) | (with_reducible (refine own_trans ?_ (by assumption))))⟩
theorem implCu_no (n : Int) (hn : inR n 1 60 = false) (w : World) : Calls Tryd.prog 41 #[(.int .i64 n)] w (RetSS [] 2 w) := by
  have HN := Lib.hid hn
  clear hn
  go_enter Tryd.func41, Tryd.ntmps41
  go_wp2_with fail
  refine (isLevel_is false _ HN.out _).mono ?_
  rintro e w2 ⟨rfl, rfl⟩
  go_wp2
  go_ret2
  exact ⟨_, rfl, GrSS.nil _ _, by repeat (first | with_reducible exact own_refl _ | with_reducible assumption | with_reducible apply own_alloc | with_reducible apply own_drewN | with_reducible apply own_drew | ((with_reducible refine own_setCell ?_ ?_ _); rotate_left; focus (first | (simp; done) | (simp; omega))) | (with_reducible (refine own_trans ?_ (by assumption))))⟩
theorem nxL_is (n : Int) (h1 : 1 ≤ n) (N : Nat) (hN : (ln n).length = N) : nxL n (ledL n 1 1 0 1 (ln n)) N := by
  refine ⟨by simp [ledL, hN], fun i hi => ?_⟩
  have hil : i < (ln n).length := by omega
  rw [ledL_at n 1 1 0 1 hil]
  refine ⟨?_, by have := (nxT_at h1 hil).1; omega⟩
  unfold nxT
  rw [show ((ln n).getD i (0, 0)).1 * 1 + ((ln n).getD i (0, 0)).2 * 0 = ((ln n).getD i (0, 0)).1 by omega, show ((ln n).getD i (0, 0)).1 * 1 + ((ln n).getD i (0, 0)).2 * 1 = ((ln n).getD i (0, 0)).1 + ((ln n).getD i (0, 0)).2 by omega]
theorem isP_T (n : Int) (p : Int × Int) (hp : p ∈ ln n) : isP n (p.1 * 1 + p.2 * 0) (p.1 * 1 + p.2 * 1) = true := by
  have h := (lnL_mem hp).2.2.2.2
  unfold okP isP at *
  simp only [Bool.and_eq_true] at h
  rw [show p.1 * 1 + p.2 * 0 = p.1 by omega, show p.1 * 1 + p.2 * 1 = p.1 + p.2 by omega]
  have e : Int.gcd p.1 (p.1 + p.2) = Int.gcd p.1 p.2 := by simp
  rw [e]
  exact h.1
set_option maxRecDepth 100000 in
set_option maxHeartbeats 4000000 in
theorem implCu_yes (n : Int) (hn : inR n 1 60 = true) (N : Nat) (hN : (ln n).length = N) (hN0 : 0 < N) (w : World) : Calls Tryd.prog 41 #[(.int .i64 n)] w (RetSS ((cys n N).map srt) 0 w) := by
  have HN := Lib.hid hn
  have hn' : 1 ≤ n ∧ n ≤ 60 := of_decide_eq_true hn
  have HL := Lib.hid (fun w => levelOf_own n hn'.1 hn'.2 w)
  have hNb : N ≤ 3600 := by rw [← hN]; exact ln_len hn'.2
  have HD := Lib.hid (fun gu ou cu w hC => led_any n 1 1 0 1 hn'.1 hn'.2 (by omega) (by omega) (by omega) (by omega) (isP_T n) gu ou cu w hC)
  have HY := Lib.hid (fun v L w hG => cyclesOf_is n N hN hNb hN0 (ledL n 1 1 0 1 (ln n)) (nxL_is n hn'.1 N hN) v L w hG)
  obtain ⟨hl, _, hrow⟩ := cys_is hn'.1 N (by omega)
  have hcs := (cus_len n N).2
  have hrows : ∀ c, c < (cys n N).length → ((cys n N).getD c []).length ≤ 3600 := fun c hc => by
    obtain ⟨q1, q2, _⟩ := hrow c (by omega)
    have h1 : ∀ x ∈ (cys n N).getD c [], x ∈ (List.range N).map (fun i : Nat => (i : Int)) := fun x hx => by
      obtain ⟨i, e, hi⟩ := q2 x hx
      exact List.mem_map.2 ⟨i, List.mem_range.2 (by omega), e.symm⟩
    have h2 := List.Nodup.length_le_of_subset q1 h1
    rw [List.length_map, List.length_range] at h2
    omega
  have HR := Lib.hid (fun c hc => And.intro (hrows c hc) (cys_some n N c hc))
  clear hn hn' hN hrow hrows
  generalize cys n N = css at *
  obtain ⟨s, hs⟩ : ∃ s, css.length = s := ⟨_, rfl⟩
  have HS := Lib.hid hs
  have hsb : s ≤ 3600 := by omega
  clear hl hcs hs
  go_enter Tryd.func41, Tryd.ntmps41
  go_wp2_with fail
  refine (isLevel_is true _ HN.out _).mono ?_
  rintro e w2 ⟨rfl, rfl⟩
  go_wp2_with fail
  refine (HL.out _).mono ?_
  rintro e w3 ⟨gu, ou, cu, rfl, _, hC3, hb3⟩
  go_wp2_with fail
  refine (powT_one _).mono ?_
  rintro e w4 ⟨rfl, hb4⟩
  have hC4 := hC3.low hb4 hC3.1
  go_wp2_with fail
  refine (HD.out _ _ _ _ hC4).mono ?_
  rintro e w5 ⟨v5, rfl, hG5, hb5⟩
  go_wp2_with fail
  refine (HY.out _ _ _ hG5).mono ?_
  rintro e w6 ⟨v6, rfl, hS6, hb6⟩
  have T6 : Below w.heap.size w w6 := own_trans hb3 (own_trans hb4 (own_trans hb5 hb6))
  have hS6 := hS6.weakZ (L' := w.heap.size) (by have := hb3.size; have := hb4.size; have := hb5.size; omega)
  clear hb3 hb4 hb5 hb6 hC3 hC4 hG5
  obtain ⟨ad, cap, hv⟩ := hS6.shape
  subst hv
  rw [HS.out]
  rw [HS.out] at hS6
  go_wp2
  go_loopw [17] (fun x wr => ∃ i : Nat, i ≤ s ∧ x = (.int .i64 ((i : Int))) ∧ GrSS wr w.heap.size (.slice ad s cap) (srtF css i) ∧ Below w.heap.size w wr) (fun x _ => s - (intOf x).toNat)
  case atStart => exact ⟨0, Nat.zero_le _, rfl, by simpa [srtF] using hS6, T6⟩
  case round =>
    obtain ⟨i, hi, rfl, hS, T⟩ := hrel
    by_cases hlt : i < s
    · have hil : i < css.length := by rw [HS.out]; exact hlt
      obtain ⟨vs, hV⟩ := hS
      have hij : i < (srtF css i).length := by rw [srtF_len]; exact hil
      obtain ⟨g, rfl, _, _, hcl⟩ := hV.rowAt rfl (by omega)
      have c0 := hcl i hij
      have hrow := hV.row hij
      rw [srtF_at hil] at hrow
      obtain ⟨hb, hne⟩ := HR.out i hil
      have hz := T.size
      have HO := Lib.hid (sort_own (vs.getD i rowZ) (css.getD i []) w.heap.size wr hrow hne (by omega) hz)
      have HT : Hid (∀ w', Gr w' w.heap.size (vs.getD i rowZ) (srt (css.getD i [])) → wr.grownBy w' (vs.getD i rowZ).ownBlock → GrSS w' w.heap.size (.slice (some ⟨g, 0, none⟩) s cap) (srtF css (i + 1))) := Lib.hid (fun w' hr hg => by
        rw [srtF_step hil]
        exact ⟨vs, hV.turn hij hr hg⟩)
      obtain ⟨ad2, cap2, e2⟩ := hrow.shape
      rw [e2] at c0 HO HT
      generalize (css.getD i []).length = m at *
      generalize srt (css.getD i []) = so at *
      clear hcl hrow hV hil hij hne e2
      go_wp2_with fail
      refine HO.out.mono ?_
      rintro e w7 ⟨rfl, hr7, hb7, hg7⟩
      go_wp2
      go_roundw
      case rel => exact ⟨i + 1, by omega, by go_num, HT.out w7 hr7 hg7, T.trans hb7⟩
      case measure => simp [intOf]; omega
    · obtain rfl : i = s := by omega
      have HE : Hid (srtF css i = css.map srt) := Lib.hid (by rw [← HS.out]; exact srtF_end css)
      go_wp2
      go_ret2
      exact ⟨_, rfl, by rw [← HE.out]; exact hS, T⟩
end Go.Proofs.YtdcomnnpnhinfaaDoor
