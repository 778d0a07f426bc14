/- Cosets that T leads to each other have one cusp. Mathematics only. EndsOf: the program's side, where the mix is one. EndsOf: the model's side, where the mix is one. Actions: lists of the numbers below n, the points met, renumbered lists. Mathematics only. Actions: two lists in blocks of their own; the laws' helpers over them. The walk of the law FnExactEndsOf. -/
import Derived.Test.YtdcomnnpnhinfaaDoorEnK2
import Derived.Test.YtdcomnnpnhinfaaDoorFlt
import Derived.Test.YtdcomnnpnhinfaaDoorEnK1
import Derived.Test.YtdcomnnpnhinfaaDoorMxS
import Derived.Test.YtdcomnnpnhinfaaDoorCo
import Derived.Test.YtdcomnnpnhinfaaDoorBase
import Derived.Test.YtdcomnnpnhinfaaDoorSS
import Derived.OwnWalk
import Derived.Test.YtdcomnnpnhinfaaDoorIlN
/- Cosets that T leads to each other have one cusp. Mathematics only. -/
namespace Go.Proofs.YtdcomnnpnhinfaaDoor
open Go.ChangeShapes Go.WideShapes Go.ChangeAt Go.RowKit

theorem isP_add {n x y : Int} (h : isP n x y = true) (t : Int) : isP n x (y + t * x) = true := by
  unfold isP at *
  rw [show Int.gcd x (y + t * x) = Int.gcd x y by rw [Int.mul_comm]; simp]
  exact h
/-- T leads the coset of x, y to that of x, x + y -/
theorem nxT_kOf {n x y : Int} (h1 : 1 ≤ n) (hp : isP n x y = true) : nxT n (kOf n x y) = kOf n x (y + x) := by
  have h := kOf_led (n := n) (x := x) (y := y) (a := 1) (b := 1) (c := 0) (d := 1) h1 hp
  unfold nxT
  have e1 : ∀ p q : Int, p * 1 + q * 0 = p := fun p q => by omega
  have e2 : ∀ p q : Int, p * 1 + q * 1 = p + q := fun p q => by omega
  rw [e1, e2, e1, e2] at h
  rw [h, Int.add_comm x y]
/-- what is marked is closed under T, and so is what is not, along a walk's beginning -/
def ClT (n : Int) (o : List Int) : Prop := ∀ j, j < (ln n).length → 0 ≤ o.getD j 0 → o.getD (nxT n j) 0 = o.getD j 0
/-- the pair of a coset is a pair -/
theorem at_isP {n : Int} (h1 : 1 ≤ n) {j : Nat} (hj : j < (ln n).length) : isP n ((ln n).getD j (0, 0)).1 ((ln n).getD j (0, 0)).2 = true ∧ kOf n ((ln n).getD j (0, 0)).1 ((ln n).getD j (0, 0)).2 = j := by
  have hm : (ln n).getD j (0, 0) ∈ ln n := by
    simp only [List.getD, List.getElem?_eq_getElem hj, Option.getD_some]
    exact List.getElem_mem hj
  have hok := (lnL_mem hm).2.2.2.2
  have hpp : isP n ((ln n).getD j (0, 0)).1 ((ln n).getD j (0, 0)).2 = true := by
    unfold okP at hok
    simp only [Bool.and_eq_true] at hok
    exact hok.1
  refine ⟨hpp, ?_⟩
  obtain ⟨m1, m2, m3, m4, _⟩ := lnL_mem hm
  have hb : ((ln n).getD j (0, 0)).1 < n := by omega
  have r1 : rst ((ln n).getD j (0, 0)).1 n = ((ln n).getD j (0, 0)).1 := by rw [rst_emod _ _ h1]; exact Int.emod_eq_of_lt m1 hb
  have r2 : rst ((ln n).getD j (0, 0)).2 n = ((ln n).getD j (0, 0)).2 := by rw [rst_emod _ _ h1]; exact Int.emod_eq_of_lt m3 (by omega)
  have e : nrm n ((ln n).getD j (0, 0)).1 ((ln n).getD j (0, 0)).2 = (ln n).getD j (0, 0) := by
    unfold okP at hok
    simp only [Bool.and_eq_true, decide_eq_true_eq] at hok
    exact hok.2
  unfold kOf
  rw [r1, r2, e]
  have e2 : (ln n).getD j (0, 0) = (ln n)[j] := by simp [List.getD, List.getElem?_eq_getElem hj]
  rw [e2]
  exact List.Nodup.idxOf_getElem (ln_nodup n) j hj
def itT (n : Int) : Nat → Nat → Nat
  | 0, j => j
  | t + 1, j => itT n t (nxT n j)
theorem itT_kOf {n x : Int} (h1 : 1 ≤ n) : ∀ (t : Nat) {y : Int}, isP n x y = true → itT n t (kOf n x y) = kOf n x (y + t * x)
  | 0, y, _ => by rw [itT]; congr 1; simp
  | t + 1, y, h => by
    rw [itT, nxT_kOf h1 h, itT_kOf h1 t (by have := isP_add h 1; rwa [Int.one_mul] at this)]
    congr 1
    have : ((t + 1 : Nat) : Int) * x = (t : Int) * x + x := by rw [Int.natCast_succ, Int.add_mul, Int.one_mul]
    omega
/-- n steps lead back -/
theorem itT_back {n : Int} (h1 : 1 ≤ n) {j : Nat} (hj : j < (ln n).length) : itT n n.toNat j = j := by
  obtain ⟨hp, e⟩ := at_isP h1 hj
  generalize ((ln n).getD j (0, 0)).1 = x at *
  generalize ((ln n).getD j (0, 0)).2 = y at *
  rw [← e, itT_kOf h1 _ hp]
  refine kOf_congr h1 (by simp) ⟨x, ?_⟩
  rw [Int.toNat_of_nonneg (by omega)]
  omega
theorem ClT.it {n : Int} {o : List Int} (h : ClT n o) (h1 : 1 ≤ n) : ∀ (t : Nat) {j : Nat}, j < (ln n).length → 0 ≤ o.getD j 0 → o.getD (itT n t j) 0 = o.getD j 0
  | 0, _, _, _ => rfl
  | t + 1, j, hj, h0 => by
    have e := h j hj h0
    rw [itT, h.it h1 t (nxT_at h1 hj).1 (by rw [e]; exact h0), e]
/-- what T leads to a marked number is marked -/
theorem ClT.back {n : Int} {o : List Int} (h : ClT n o) (h1 : 1 ≤ n) {j : Nat} (hj : j < (ln n).length) (h0 : 0 ≤ o.getD (nxT n j) 0) : o.getD j 0 = o.getD (nxT n j) 0 := by
  obtain ⟨m, hm⟩ : ∃ m, n.toNat = m + 1 := ⟨n.toNat - 1, by omega⟩
  have e := itT_back h1 hj
  rw [hm, itT] at e
  have := h.it h1 m (nxT_at h1 hj).1 h0
  rw [e] at this
  exact this
/-- what a walk from an unmarked number keeps -/
structure WkT (n c : Int) (o o' : List Int) (j : Nat) : Prop where
  len : o'.length = (ln n).length
  or : ∀ m, m < (ln n).length → o'.getD m 0 = o.getD m 0 ∨ (o.getD m 0 < 0 ∧ o'.getD m 0 = c)
  next : ∀ m, m < (ln n).length → o.getD m 0 < 0 → o'.getD m 0 = c → o'.getD (nxT n m) 0 = c ∨ nxT n m = j
  free : o.getD j 0 < 0
  lt : j < (ln n).length
theorem WkT.run {n c : Int} {o : List Int} (h1 : 1 ≤ n) (hc : 0 ≤ c) (ho : ClT n o) : ∀ (f : Nat) (j : Nat) (o' : List Int), negs o' < f → WkT n c o o' j → ClT n (mrk n c f j o')
  | 0, _, _, hf, _ => by omega
  | f + 1, j, o', hf, W => by
    by_cases h : o'.getD j 0 < 0
    · rw [mrk_yes h]
      have hjl : j < o'.length := by rw [W.len]; exact W.lt
      have hng := negs_set (c := c) hjl h hc
      refine WkT.run h1 hc ho f (nxT n j) (o'.set j c) (by omega) ⟨by rw [List.length_set]; exact W.len, fun m hm => ?_, fun m hm h2 h3 => ?_, ?_, (nxT_at h1 W.lt).1⟩
      · rw [getD_set hjl]
        by_cases e : m = j
        · subst e; rw [if_pos rfl]; exact .inr ⟨W.free, rfl⟩
        · rw [if_neg e]; exact W.or m hm
      · by_cases e : m = j
        · subst e; exact .inr rfl
        · rw [getD_set hjl, if_neg e] at h3
          refine .inl ?_
          rw [getD_set hjl]
          rcases W.next m hm h2 h3 with h4 | h4
          · by_cases e2 : nxT n m = j
            · rw [if_pos e2]
            · rw [if_neg e2]; exact h4
          · rw [if_pos h4]
      · by_cases h4 : 0 ≤ o.getD (nxT n j) 0
        · have := ho.back h1 W.lt h4
          have := W.free
          omega
        · omega
    · rw [mrk_no h]
      have hjc : o'.getD j 0 = c := by
        rcases W.or j W.lt with h2 | h2
        · have := W.free; omega
        · exact h2.2
      intro m hm h0
      rcases W.or m hm with h2 | ⟨h2, h3⟩
      · have e := ho m hm (by omega)
        rcases W.or (nxT n m) (nxT_at h1 hm).1 with h4 | h4
        · omega
        · omega
      · rcases W.next m hm h2 h3 with h4 | h4
        · rw [h4, h3]
        · rw [h4, hjc, h3]
theorem cus_cl {n : Int} (h1 : 1 ≤ n) : ∀ k : Nat, k ≤ (ln n).length → ClT n (cus n k).1 ∧ ∀ i, i < k → 0 ≤ (cus n k).1.getD i 0
  | 0, _ => by
    refine ⟨fun j hj h0 => ?_, fun i hi => by omega⟩
    exfalso
    have e : (cus n 0).1.getD j 0 = -1 := by simp [cus, List.getD, hj]
    omega
  | k + 1, hk => by
    obtain ⟨r1, r2⟩ := cus_cl h1 k (by omega)
    have hl := (cus_len n k).1
    rw [cus]
    by_cases h : (cus n k).1.getD k 0 < 0
    · rw [if_pos h]
      obtain ⟨w1, w2, w3⟩ := walk_is (c := ((cus n k).2 : Int)) h1 (by omega) ((ln n).length + 1) k (cus n k).1 (by omega) hl
      have hcy : (k : Int) ∈ cyL n ((cus n k).2 : Int) ((ln n).length + 1) k (cus n k).1 := by rw [cyL_yes h]; exact List.mem_cons_self
      have hng := negs_le (cus n k).1
      have hcl := WkT.run (c := ((cus n k).2 : Int)) h1 (by omega) r1 ((ln n).length + 1) k (cus n k).1 (by omega) ⟨hl, fun m _ => .inl rfl, fun m hm h2 h3 => by omega, h, by omega⟩
      refine ⟨hcl, fun i hi => ?_⟩
      simp only
      rw [w3 i (by omega)]
      split
      · omega
      · rename_i h5
        by_cases e : i = k
        · subst e; exact absurd hcy h5
        · exact r2 i (by omega)
    · rw [if_neg h]
      refine ⟨r1, fun i hi => ?_⟩
      by_cases e : i = k
      · subst e; omega
      · exact r2 i (by omega)
/-- the cusp of a coset is that of all cosets to which powers of T lead it -/
theorem cus_T {n x : Int} (h1 : 1 ≤ n) {N : Nat} (hN : (ln n).length = N) (t : Int) {y : Int} (hp : isP n x y = true) : (cus n N).1.getD (kOf n x (y + t * x)) 0 = (cus n N).1.getD (kOf n x y) 0 := by
  obtain ⟨r1, r2⟩ := cus_cl h1 N (by omega)
  have key : ∀ (t : Nat) {y : Int}, isP n x y = true → (cus n N).1.getD (kOf n x (y + t * x)) 0 = (cus n N).1.getD (kOf n x y) 0 := fun t y h => by
    rw [← itT_kOf h1 t h]
    have hk := (kOf_spec h1 h).1
    exact r1.it h1 t hk (r2 _ (by omega))
  rcases Int.le_total 0 t with h0 | h0
  · obtain ⟨m, rfl⟩ := Int.eq_ofNat_of_zero_le h0
    exact key m hp
  · obtain ⟨m, hm⟩ := Int.eq_ofNat_of_zero_le (show 0 ≤ -t by omega)
    have := key m (isP_add hp t)
    rw [← hm, show y + t * x + -t * x = y by rw [Int.neg_mul]; omega] at this
    exact this.symm
end Go.Proofs.YtdcomnnpnhinfaaDoor
/- EndsOf: the program's side, where the mix is one. -/
namespace Go.Proofs.YtdcomnnpnhinfaaDoor
open Go.ChangeShapes Go.WideShapes Go.ChangeAt Go.RowKit

theorem wrapEn (x : Int) : IntKind.i64.wrap x = wrap64 x := by simp [IntKind.wrap_i64, wrap64]
/-- what a round adds at the first cusp and takes at the second -/
def endR (e : List Int) (a b : Nat) (x : Int) : List Int := (e.set a (wrap64 (e.getD a 0 + x))).set b (wrap64 ((e.set a (wrap64 (e.getD a 0 + x))).getD b 0 - x))
/-- the ends behind k cosets -/
def endF (o led xs : List Int) (m : Nat) : Nat → List Int
  | 0 => List.replicate m 0
  | k + 1 => endR (endF o led xs m k) (o.getD k 0).toNat (o.getD (led.getD k 0).toNat 0).toNat (xs.getD k 0)
theorem endF_len (o led xs : List Int) (m : Nat) : ∀ k, (endF o led xs m k).length = m
  | 0 => by simp [endF]
  | k + 1 => by simp [endF, endR, endF_len o led xs m k]
theorem info_intE : (Tryd.prog.info? 3).map (fun i => (i.zero, i.size, i.bytes)) = some (some (.int .i64 0), 1, 8) := by kernel_rfl
theorem mkInts (n : Nat) (hn : n ≤ 1048576) (w : World) : (Instr.makeSlice 71 (.int .i64 n) (.int .i64 n)).run Tryd.prog w =
    .ok (.slice (some ⟨w.heap.size, 0, none⟩) n n) (w.alloc (.cells (Array.replicate n (.int .i64 0)) 3)) := by
  obtain ⟨i0, hi, hz0, hz1, hz2⟩ := info_parts info_intE
  have h := run_make (P := Tryd.prog) (w := w) 71 3 i0 (.int .i64 0) Tryd.underlying71 hi hz0 .i64 .i64 n n (by omega) (Int.le_refl _) (by rw [hz2]; omega) (by omega)
  rw [h, hz1]
  have e : madeCells ((.int .i64 0) : Value).cells ((n : Int).toNat * 1) = Array.replicate n (.int .i64 0) := by
    apply Array.ext
    · simp [size_madeCells]
    · intro i h1 h2
      simp [madeCells, Value.cells, Nat.mod_one]
  rw [e]
  simp
theorem boxInts {w : World} {g : Nat} (hg : w.heap.size = g) (n : Nat) : Box (w.alloc (.cells (Array.replicate n (.int .i64 0)) 3)) g ((List.replicate n (0 : Int)).map fun x => (.int .i64 x)) := by
  have e2 : Array.replicate n (.int .i64 0) = ((List.replicate n (0 : Int)).map fun x => ((.int .i64 x) : Value)).toArray := by simp
  rw [e2]
  exact Box.newAt hg _ _
theorem ints_at {m : List Int} {j : Nat} (h : j < m.length) : (m.map fun x => ((.int .i64 x) : Value))[j]? = some (.int .i64 (m.getD j 0)) := by simp [List.getD, h]
theorem mk64E (n : Nat) (hn : n ≤ 1048576) (w : World) : (Instr.makeSlice 22 (.int .i64 n) (.int .i64 n)).run Tryd.prog w =
    .ok (.slice (some ⟨w.heap.size, 0, none⟩) n n) (w.alloc (.cells (Array.replicate n (.int .i64 0)) 2)) := by
  have h := made64T n hn w
  simpa using h
theorem litE {w : World} {L g : Nat} (hg : w.heap.size = g) (hL : L ≤ g) (n : Nat) (hn : n ≤ 1048576) :
    Gr (w.alloc (.cells (Array.replicate n (.int .i64 0)) 2)) L (.slice (some ⟨g, 0, none⟩) n n) (List.replicate n 0) := by
  subst hg
  have h := World.ownsRow_lit (e := 2) (size := 1) (base := L) w (Array.replicate n (.int .i64 0)) n hL (by unfold maxLen; omega) (by simp)
  unfold Gr
  rw [List.length_replicate]
  simpa using h
theorem putE {w : World} {L g cap n k : Nat} {y : Int} {xs : List Int} (h : Gr w L (.slice (some ⟨g, 0, none⟩) n cap) xs) (hn : xs.length = n) (hk : k < n) :
    Gr (w.setCell ⟨g, k, none⟩ (.int .i64 y)) L (.slice (some ⟨g, 0, none⟩) n cap) (xs.set k y) := by
  subst hn
  exact h.putZ hk
theorem grownSetE (w : World) (p : Addr) (u : Value) : w.grownBy (w.setCell p u) (some p.block) :=
  ⟨rfl, rfl, rfl, by simp [World.setCell], fun k _ hk => Below.heap_setCell w p u k (fun e => hk (by rw [e]))⟩
theorem Gr.farE {w : World} {L : Nat} {v : Value} {xs : List Int} (h : Gr w L v xs) {p : Addr} (hp : ∀ r, v.ownBlock = some r → r ≠ p.block) (u : Value) : Gr (w.setCell p u) L v xs := by
  refine World.ownsRow.kept h (grownSetE w p u) ?_
  rcases e : v.ownBlock with _ | k
  · exact .inl rfl
  · exact .inr fun he => hp k e (by cases he; rfl)
theorem Gr.weakE {w : World} {L L' : Nat} {v : Value} {xs : List Int} (h : Gr w L v xs) (hL : L' ≤ L) : Gr w L' v xs := by
  obtain ⟨h1, h2⟩ := h
  refine ⟨h1, h2.imp id ?_⟩
  rintro ⟨g, cap, cur, e1, e2, e3⟩
  exact ⟨g, cap, cur, e1, Nat.le_trans hL e2, e3⟩
/-- what the program's list of cusps has, behind c rows and t numbers of the next -/
def CoI (o : List Int) (N : Nat) (rows : List (List Int)) (c t : Nat) (co : List Int) : Prop :=
  co.length = N ∧ (∀ i, i < N → o.getD i 0 < (c : Int) → co.getD i 0 = o.getD i 0) ∧ ∀ j, j < t → co.getD ((rows.getD c []).getD j 0).toNat 0 = (c : Int)
theorem getD_setE {o : List Int} {i j : Nat} {c : Int} (hj : j < o.length) : (o.set j c).getD i 0 = if i = j then c else o.getD i 0 := by
  by_cases e : i = j
  · subst e; simp [List.getD, hj]
  · rw [if_neg e]; simp [List.getD, List.getElem?_set_ne (Ne.symm e)]
/-- the rows are those of the cusps -/
def RowsE (o : List Int) (N m : Nat) (rows : List (List Int)) : Prop :=
  rows.length = m ∧ (∀ i, i < N → 0 ≤ o.getD i 0 ∧ o.getD i 0 < (m : Int)) ∧ ∀ c, c < m → ((rows.getD c []).length ≤ N ∧ ∀ x, x ∈ rows.getD c [] ↔ ∃ i : Nat, x = (i : Int) ∧ i < N ∧ o.getD i 0 = (c : Int))
theorem getD_memE {l : List Int} {k : Nat} (h : k < l.length) : l.getD k 0 ∈ l := by
  simp only [List.getD, List.getElem?_eq_getElem h, Option.getD_some]
  exact List.getElem_mem h
theorem CoI.put {o co : List Int} {N m c t : Nat} {rows : List (List Int)} (hr : RowsE o N m rows) (hc : c < m) (h : CoI o N rows c t co) (ht : t < (rows.getD c []).length) :
    ∃ i : Nat, (rows.getD c []).getD t 0 = (i : Int) ∧ i < N ∧ CoI o N rows c (t + 1) (co.set i (c : Int)) := by
  obtain ⟨i, e, hi, ho⟩ := ((hr.2.2 c hc).2 _).1 (getD_memE ht)
  refine ⟨i, e, hi, by rw [List.length_set]; exact h.1, fun i2 hi2 h2 => ?_, fun j hj => ?_⟩
  · have hil : i < co.length := by rw [h.1]; exact hi
    rw [getD_setE hil]
    by_cases e2 : i2 = i
    · subst e2; omega
    · rw [if_neg e2]; exact h.2.1 i2 hi2 h2
  · have hil : i < co.length := by rw [h.1]; exact hi
    rw [getD_setE hil]
    split
    · rfl
    · rename_i e2
      by_cases hjt : j < t
      · exact h.2.2 j hjt
      · have : j = t := by omega
        subst this
        exact absurd (by rw [e]; simp) e2
theorem CoI.next {o co : List Int} {N m c : Nat} {rows : List (List Int)} (hr : RowsE o N m rows) (hc : c < m) (h : CoI o N rows c (rows.getD c []).length co) : CoI o N rows (c + 1) 0 co := by
  refine ⟨h.1, fun i hi h2 => ?_, fun j hj => by omega⟩
  by_cases e : o.getD i 0 < (c : Int)
  · exact h.2.1 i hi e
  · have e2 : o.getD i 0 = (c : Int) := by omega
    have hm := ((hr.2.2 c hc).2 (i : Int)).2 ⟨i, rfl, hi, e2⟩
    obtain ⟨j, hj, e3⟩ := List.getElem_of_mem hm
    have h4 := h.2.2 j hj
    have e5 : (rows.getD c []).getD j 0 = (i : Int) := by
      simp only [List.getD] at e3 hj ⊢
      rw [List.getElem?_eq_getElem hj, Option.getD_some, e3]
    rw [e5] at h4
    rw [e2]
    simpa using h4
theorem CoI.done {o co : List Int} {N m : Nat} {rows : List (List Int)} (hr : RowsE o N m rows) (h : CoI o N rows m 0 co) : ∀ i, i < N → co.getD i 0 = o.getD i 0 := fun i hi => h.2.1 i hi (hr.2.1 i hi).2
theorem cys_rowsE {n : Int} (h1 : 1 ≤ n) {N : Nat} (hN : (ln n).length = N) (hall : ∀ i, i < N → 0 ≤ (cus n N).1.getD i 0) : RowsE (cus n N).1 N (cus n N).2 ((cys n N).map srt) := by
  obtain ⟨q1, q2, _⟩ := cys_is h1 N (by omega)
  refine ⟨by rw [List.length_map, q1], fun i hi => ⟨hall i hi, (q2 i (by omega)).2⟩, fun c hc => ?_⟩
  have hl : c < (cys n N).length := by rw [q1]; exact hc
  have e : ((cys n N).map srt).getD c [] = rowC (cus n N).1 c N := by
    rw [← cycle_row h1 hN hc]
    simp [List.getD, hl]
  rw [e]
  exact ⟨rowC_len N, fun x => rowC_mem⟩
set_option maxRecDepth 100000 in
set_option maxHeartbeats 8000000 in
theorem implEn_yes (n : Int) (xs : List Int) (hc : mxC n 1 (fun _ => xs) = 0) (N : Nat) (hN : (ln n).length = N) (hxl : xs.length = N) (h1 : 1 ≤ n) (h2 : n ≤ 60) (hN0 : 0 < N) (hN72 : N ≤ 72) (v : Value) (L U : Nat) (w : World) (hS : Sl w L U v xs) (hid : MxS w) :
    Calls Tryd.prog 18 #[(.int .i64 n), v] w (RetEn (endF (cus n N).1 (ledL n 0 (-1) 1 0 (ln n)) xs (cus n N).2 N) 0 w) := by
  obtain ⟨av, cv, rfl⟩ : ∃ a c, v = .slice a xs.length c := by obtain ⟨_, a, c, e, _⟩ := hS; exact ⟨a, c, e⟩
  have HC := Lib.hid (fun (w : World) hM => codeOfMixes_is n 1 (by omega) (.slice (some ⟨w.heap.size, 0, none⟩) 1 1) (fun _ => .slice av xs.length cv) (fun _ => xs) (fun _ _ => by omega) 0 hc (w.alloc (.cells #[.slice av xs.length cv] 22)) hM)
  have HM := Lib.hid (Mixes.one rfl _ xs L U hS)
  have HX := Lib.hid hS
  have HID := Lib.hid hid
  have HB := Lib.hid (And.intro h1 h2)
  have HU := Lib.hid (fun w => implCu_yes n (decide_eq_true ⟨h1, h2⟩) N hN hN0 w)
  have HL := Lib.hid (fun w => levelOf_own n h1 h2 w)
  have hp : ∀ p ∈ ln n, isP n p.1 p.2 = true := fun p hp => by
    have := (lnL_mem hp).2.2.2.2
    unfold okP at this
    simp at this
    exact this.1
  have HD := Lib.hid (fun gu ou cu w hC => led_any n 0 (-1) 1 0 h1 h2 (by omega) (by omega) (by omega) (by omega) (fun p h => by rw [show p.1 * 0 + p.2 * 1 = p.2 by omega, show p.1 * (-1) + p.2 * 0 = -p.1 by omega]; exact isP_S (hp p h)) gu ou cu w hC)
  have HRW := Lib.hid (cys_rowsE h1 hN (fun i hi => (cus_cl h1 N (by omega)).2 i hi))
  have hml := (cus_len n N).2
  have hll : (ledL n 0 (-1) 1 0 (ln n)).length = N := by simp [ledL, hN]
  have hlb : ∀ k, k < N → ∃ j : Nat, (ledL n 0 (-1) 1 0 (ln n)).getD k 0 = (j : Int) ∧ j < N := fun k hk => by
    have hkl : k < (ln n).length := by omega
    refine ⟨_, ledL_at n 0 (-1) 1 0 hkl, ?_⟩
    have hm : (ln n).getD k (0, 0) ∈ ln n := by
      simp only [List.getD, List.getElem?_eq_getElem hkl, Option.getD_some]
      exact List.getElem_mem hkl
    have hq : isP n (((ln n).getD k (0, 0)).1 * 0 + ((ln n).getD k (0, 0)).2 * 1) (((ln n).getD k (0, 0)).1 * (-1) + ((ln n).getD k (0, 0)).2 * 0) = true := by
      rw [show ((ln n).getD k (0, 0)).1 * 0 + ((ln n).getD k (0, 0)).2 * 1 = ((ln n).getD k (0, 0)).2 by omega, show ((ln n).getD k (0, 0)).1 * (-1) + ((ln n).getD k (0, 0)).2 * 0 = -((ln n).getD k (0, 0)).1 by omega]
      exact isP_S (hp _ hm)
    have := (kOf_spec h1 hq).1
    omega
  have HLB := Lib.hid (And.intro hll hlb)
  have hrl : ((cys n N).map srt).length = (cus n N).2 := HRW.out.1
  generalize (cys n N).map srt = rows at *
  generalize ledL n 0 (-1) 1 0 (ln n) = led at *
  generalize (cus n N).1 = o at *
  generalize (cus n N).2 = m at *
  have HRL := Lib.hid hrl
  have hmk := mkInts N (by omega)
  have hmk2 := mk64E m (by omega)
  rw [hxl] at HC HM HX ⊢
  have HXL := Lib.hid hxl
  clear hc hN hxl h1 h2 hid hp hS hll hlb hrl
  go_enter Tryd.func18, Tryd.ntmps18
  go_wp2_with fail
  refine (HC.out _ HM.out).mono ?_
  rintro e w2 ⟨rfl, hb2⟩
  have T2 : Below w.heap.size w w2 := own_trans (own_alloc (own_refl w) _) hb2
  clear hb2
  go_wp2_with fail
  refine (HU.out _).mono ?_
  rintro e w3 ⟨v3, rfl, G3, hb3⟩
  have T3 := own_trans T2 hb3
  obtain ⟨ad, cap, e⟩ := G3.shape
  subst e
  rw [HRL.out] at G3 ⊢
  have HG := Lib.hid G3
  clear hb3 T2 G3
  have B0 := boxInts (w := w3) rfl N
  have T0 := own_alloc (own_refl w3) (.cells (Array.replicate N (.int .i64 0)) 3)
  go_upto_region 6 with fail
  generalize w3.alloc (.cells (Array.replicate N (.int .i64 0)) 3) = w4 at *
  have hgc : w3.heap.size < w4.heap.size := B0.1
  obtain ⟨gc, hgc'⟩ : ∃ gc, w3.heap.size = gc := ⟨_, rfl⟩
  rw [hgc'] at B0
  have lgc : w3.heap.size ≤ gc := by omega
  simp only [hgc']
  go_wp2_with fail
  go_loopw [34] (fun x wr => ∃ (c : Nat) (co : List Int), c ≤ m ∧ x = (.int .i64 ((c : Int))) ∧ Hid (CoI o N rows c 0 co) ∧ Box wr gc (co.map fun x => (.int .i64 x)) ∧ Below w3.heap.size w3 wr) (fun x _ => m - (intOf x).toNat)
  case atStart => exact ⟨0, List.replicate N 0, Nat.zero_le _, rfl, Lib.hid ⟨by simp, fun i hi h => by have := (HRW.out.2.1 i hi).1; omega, fun j hj => by omega⟩, B0, T0⟩
  case round =>
    obtain ⟨c, co, hcm, rfl, HCO, B, T⟩ := hrel
    by_cases hlt : c < m
    · obtain ⟨vs, hV3⟩ := HG.out
      have hkl : c < rows.length := by rw [HRL.out]; exact hlt
      have hrow3 := hV3.row hkl
      have hV := hV3.own T
      have hlow : Hid (∀ r, (vs.getD c rowZ).ownBlock = some r → r ≠ gc) := Lib.hid (fun r hr e => by have := (hrow3.lt r hr).2; omega)
      rw [← HRL.out] at hV
      obtain ⟨gl, rfl, _, _, hcl⟩ := hV.rowAt rfl (by omega)
      have c0 := hcl c hkl
      have hrow := hV.row hkl
      have HR := Lib.hid hrow
      obtain ⟨ad2, cap2, e2⟩ := hrow.shape
      rw [e2] at c0 HR hlow
      clear hcl hrow hrow3 hV hV3 e2 hkl
      obtain ⟨t0, ht0⟩ : ∃ t, (rows.getD c []).length = t := ⟨_, rfl⟩
      have HT0 := Lib.hid ht0
      have htb := ((HRW.out.2.2 c hlt).1)
      rw [ht0] at c0 HR htb hlow
      clear ht0
      generalize hwr : wr = wo at *
      clear hwr
      go_wp2_with fail
      go_loopw [41] (fun x wi => ∃ (t : Nat) (co : List Int), t ≤ t0 ∧ x = (.int .i64 ((t : Int))) ∧ Hid (CoI o N rows c t co) ∧ Box wi gc (co.map fun x => (.int .i64 x)) ∧ Below w3.heap.size w3 wi ∧ Gr wi _ (.slice ad2 t0 cap2) (rows.getD c [])) (fun x _ => t0 - (intOf x).toNat)
      case atStart => exact ⟨0, co, Nat.zero_le _, rfl, HCO, B, T, HR.out⟩
      case round =>
        obtain ⟨t, co, htl, rfl, HCO, B, T, GR⟩ := hrel
        by_cases hlt2 : t < t0
        · obtain ⟨g2, rfl, _, _, hc2⟩ := GR.cellsZ (by omega)
          have c2 := (hc2 t hlt2).1
          obtain ⟨i, ei, hiN, hput⟩ := CoI.put HRW.out hlt HCO.out (by rw [HT0.out]; exact hlt2)
          have HCO2 := Lib.hid hput
          rw [ei] at c2
          have hcl := HCO.out.1
          obtain ⟨b0, f0⟩ := B.2 i _ (ints_at (by rw [hcl]; exact hiN))
          have B2 := B.set i (by rw [List.length_map, hcl]; exact hiN) (.int .i64 ((c : Int)))
          have T2 := own_setCell T (p := ⟨gc, i, none⟩) lgc (.int .i64 ((c : Int)))
          have GR2 := GR.farE (p := ⟨gc, i, none⟩) hlow.out (.int .i64 ((c : Int)))
          clear hc2 ei hput hcl
          go_wp2
          go_roundw
          case rel => exact ⟨t + 1, co.set i (c : Int), by omega, by go_num, HCO2, by rw [List.map_set]; exact B2, T2, GR2⟩
          case measure => simp [intOf]; omega
        · obtain rfl : t = t0 := by omega
          have HN := Lib.hid (CoI.next HRW.out hlt (by rw [HT0.out]; exact HCO.out))
          clear hlt2
          go_wp2
          go_roundw
          case rel => exact ⟨c + 1, co, by omega, by go_num, HN, B, T⟩
          case measure => simp [intOf]; omega
    · obtain rfl : c = m := by omega
      have HCE := Lib.hid (CoI.done HRW.out HCO.out)
      have HCL := Lib.hid HCO.out.1
      clear hlt hmk
      have GE := litE (w := wr) (L := w.heap.size) rfl (by have := T3.size; have := T.size; omega) c (by omega)
      have BE := B.alloc (.cells (Array.replicate c (.int .i64 0)) 2)
      have TE := own_alloc T (.cells (Array.replicate c (.int .i64 0)) 2)
      have hge : gc < wr.heap.size := B.1
      have hs5 : (wr.alloc (.cells (Array.replicate c (.int .i64 0)) 2)).heap.size = wr.heap.size + 1 := by simp
      go_upto_region 16 with fail
      generalize wr.alloc (.cells (Array.replicate c (.int .i64 0)) 2) = w5 at *
      generalize wr.heap.size = ge at *
      have hM5 : MxS w5 := Rd.below HID.out (own_trans T3 TE)
      obtain ⟨m0, m1, m2, m3⟩ := hM5.four
      go_cut [57, 58, 59] (fun a b z wx => ∃ (al : Option Addr) (cl : Nat), a = .slice al N cl ∧ b = (.int .i64 ((N : Int))) ∧ z = (.int .i64 0) ∧ Gr wx (ge + 1) (.slice al N cl) led ∧ Below w5.heap.size w5 wx)
      case first =>
        go_region_held3 (fun w' => w'.cell? ⟨0, 0, none⟩ = some (.int .i64 0) ∧ w'.cell? ⟨0, 1, none⟩ = some (.int .i64 (-1)) ∧ w'.cell? ⟨0, 2, none⟩ = some (.int .i64 1) ∧ w'.cell? ⟨0, 3, none⟩ = some (.int .i64 0)) (go_keep)
          (first
            | (go_at_call 35; refine (HD.out _ _ _ _ C6).mono ?_; rintro e w7 ⟨v7, rfl, G7, hb7⟩; obtain ⟨a7, c7, e7⟩ := G7.shape; rw [HLB.out.1] at e7; subst e7; have T7 := own_trans T6 hb7; obtain ⟨m70, m71, m72, m73⟩ := (Rd.below HID.out (own_trans T3 (own_trans TE T7)) : MxS w7).four; have z7 := T6.size; clear hb7)
            | (go_at_call 34; refine (HL.out _).mono ?_; rintro e w6 ⟨gu, ou, cu, rfl, hgu, C6, hb6⟩; have T6 : Below w5.heap.size w5 w6 := own_trans (own_drew (own_refl w5)) hb6; obtain ⟨m60, m61, m62, m63⟩ := (Rd.below HID.out (own_trans T3 (own_trans TE T6)) : MxS w6).four))
        all_goals
          go_wp2_with fail
          go_meet
          exact ⟨a7, c7, rfl, rfl, rfl, G7.weakE (by omega), T7⟩
      case rest =>
        obtain ⟨al, cl, rfl, rfl, rfl, GL, TL⟩ := hcut
        have BC := BE.below TL
        have GD := GE.own TL
        have TD := own_trans TE TL
        have lge : w.heap.size ≤ ge := (GD.lt ge rfl).1
        have hgw : w3.heap.size ≤ ge := by omega
        obtain ⟨gl, e, ll, -, -⟩ := GL.cellsZ hN0
        subst e
        have q1 : ¬ gc = ge := by omega
        have q2 : ¬ gl = ge := by omega
        have q3 : ¬ ge = gc := by omega
        have q4 : ¬ ge = gl := by omega
        clear BE GE TE TL m0 m1 m2 m3 hM5 hs5 hge
        generalize wc = w6 at *
        go_wp2_with fail
        go_loopw [59] (fun x wi => ∃ k : Nat, k ≤ N ∧ x = (.int .i64 ((k : Int))) ∧ Gr wi w.heap.size (.slice (some ⟨ge, 0, none⟩) c c) (endF o led xs c k) ∧ Box wi gc (co.map fun x => (.int .i64 x)) ∧ Gr wi (ge + 1) (.slice (some ⟨gl, 0, none⟩) N cl) led ∧ Below w3.heap.size w3 wi) (fun x _ => N - (intOf x).toNat)
        case atStart => exact ⟨0, Nat.zero_le _, rfl, GD, BC, GL, TD⟩
        case round =>
          obtain ⟨k, hk, rfl, GD, BC, GL, T⟩ := hrel
          by_cases hlt : k < N
          · obtain ⟨j, ej, hj⟩ := HLB.out.2 k hlt
            obtain ⟨oa1, oa2⟩ := HRW.out.2.1 k hlt
            obtain ⟨ob1, ob2⟩ := HRW.out.2.1 j hj
            obtain ⟨a, ha⟩ : ∃ a : Nat, o.getD k 0 = (a : Int) := ⟨(o.getD k 0).toNat, by omega⟩
            obtain ⟨b, hb⟩ : ∃ b : Nat, o.getD j 0 = (b : Int) := ⟨(o.getD j 0).toNat, by omega⟩
            have hac : a < c := by omega
            have hbc : b < c := by omega
            have ca := (BC.2 k _ (ints_at (by rw [HCL.out]; exact hlt))).1
            have cb := (BC.2 j _ (ints_at (by rw [HCL.out]; exact hj))).1
            rw [HCE.out k hlt, ha] at ca
            rw [HCE.out j hj, hb] at cb
            obtain ⟨_, e, _, _, hcl⟩ := GL.cellsZ hN0
            injection e with e; injection e with e; subst e
            have c1 := (hcl k hlt).1
            rw [ej] at c1
            obtain ⟨-, hU, hxc⟩ := slice_at (HX.out.own (own_trans T3 T))
            obtain ⟨gx, off, e, _, hgx, hxd⟩ := hxc (by rw [HXL.out]; exact hN0)
            subst e
            have cx := (hxd k (by rw [HXL.out]; exact hlt)).1
            have HUw := HX.out.1
            have q5 : ¬ gx = ge := by omega
            have q6 : ¬ ge = gx := by omega
            obtain ⟨_, e, _, _, hce⟩ := GD.cellsZ (by omega)
            injection e with e; injection e with e; subst e
            obtain ⟨ce, fe⟩ := hce a hac
            have hEl := endF_len o led xs c k
            have HEF : Hid (endF o led xs c (k + 1) = endR (endF o led xs c k) a b (xs.getD k 0)) := Lib.hid (by rw [endF, ej, Int.toNat_natCast, ha, hb, Int.toNat_natCast, Int.toNat_natCast])
            clear ej oa1 oa2 ob1 ob2 ha hb hcl hxc hxd hce
            generalize endF o led xs c k = E at *
            generalize xs.getD k 0 = x at *
            obtain ⟨z, hz⟩ : ∃ z, E.getD a 0 = z := ⟨_, rfl⟩
            obtain ⟨y, hy⟩ : ∃ y, wrap64 (z + x) = y := ⟨_, rfl⟩
            have X1 : IntKind.i64.wrap (z + x) = y := (wrapEn _).trans hy
            rw [hz] at ce
            have GA := putE GD hEl hac (y := y)
            have BA := BC.far (p := ⟨ge, a, none⟩) q1 (.int .i64 y)
            have LA := GL.farE (p := ⟨ge, a, none⟩) (fun r hr e => q2 (by simp [Value.ownBlock] at hr; rw [hr]; exact e)) (.int .i64 y)
            have TA := own_setCell T (p := ⟨ge, a, none⟩) hgw (.int .i64 y)
            obtain ⟨_, e, _, _, hce⟩ := GA.cellsZ (by omega)
            injection e with e; injection e with e; subst e
            obtain ⟨ce2, fe2⟩ := hce b hbc
            obtain ⟨z2, hz2⟩ : ∃ z, (E.set a y).getD b 0 = z := ⟨_, rfl⟩
            obtain ⟨y2, hy2⟩ : ∃ y, wrap64 (z2 - x) = y := ⟨_, rfl⟩
            have X2 : IntKind.i64.wrap (z2 - x) = y2 := (wrapEn _).trans hy2
            rw [hz2] at ce2
            have GB := putE GA (by rw [List.length_set]; exact hEl) hbc (y := y2)
            have BB := BA.far (p := ⟨ge, b, none⟩) q1 (.int .i64 y2)
            have LB := LA.farE (p := ⟨ge, b, none⟩) (fun r hr e => q2 (by simp [Value.ownBlock] at hr; rw [hr]; exact e)) (.int .i64 y2)
            have TB := own_setCell TA (p := ⟨ge, b, none⟩) hgw (.int .i64 y2)
            have HE2 : Hid (endF o led xs c (k + 1) = (E.set a y).set b y2) := Lib.hid (by rw [HEF.out, endR, hz, hy, hz2, hy2])
            clear hz hz2 hce HUw hU hgx
            go_wp2
            go_region
            generalize hwB : wr.setCell ⟨ge, a, none⟩ (.int .i64 y) = wB at *
            obtain ⟨-, cb2, -⟩ : True ∧ wB.cell? ⟨gc, j, none⟩ = some (.int .i64 ((b : Int))) ∧ True := ⟨trivial, by rw [← hwB]; exact (World.cell?_of_block (w := wr) (a := ⟨gc, j, none⟩) (Below.heap_setCell wr ⟨ge, a, none⟩ (.int .i64 y) gc q1)).trans cb, trivial⟩
            obtain ⟨-, cx2, -⟩ : True ∧ wB.cell? ⟨gx, off + k, none⟩ = some (.int .i64 x) ∧ True := ⟨trivial, by rw [← hwB]; exact (World.cell?_of_block (w := wr) (a := ⟨gx, off + k, none⟩) (Below.heap_setCell wr ⟨ge, a, none⟩ (.int .i64 y) gx q5)).trans cx, trivial⟩
            clear hwB ca cb c1 cx ce fe GD BC GL T GA BA LA TA
            go_wp2
            go_region
            go_wp2_with fail
            go_roundw
            case rel => exact ⟨k + 1, by omega, by go_num, by rw [HE2.out]; first | exact GB | exact GB.drew, by first | exact BB | exact BB.drew, by first | exact LB | exact LB.drew, by repeat (first | with_reducible exact own_refl _ | with_reducible assumption | with_reducible apply own_alloc | with_reducible apply own_drewN | with_reducible apply own_drew | ((with_reducible refine own_setCell ?_ ?_ _); rotate_left; focus (first | (simp; done) | (simp; omega))) | (with_reducible (refine own_trans ?_ (by assumption))))⟩
            case measure => simp [intOf]; omega
          · obtain rfl : k = N := by omega
            clear hlt
            go_wp2
            go_ret2
            exact ⟨_, rfl, Gr.sl (GD), own_trans T3 T⟩
end Go.Proofs.YtdcomnnpnhinfaaDoor
/- EndsOf: the model's side, where the mix is one. -/
namespace Go.Proofs.YtdcomnnpnhinfaaDoor
open Go.ChangeShapes Go.WideShapes Go.ChangeAt Go.RowKit

set_option maxRecDepth 100000 in
set_option maxHeartbeats 8000000 in
theorem specEn_yes (n : Int) (xs : List Int) (hc : mxC n 1 (fun _ => xs) = 0) (N : Nat) (hN : (ln n).length = N) (hxl : xs.length = N) (h1 : 1 ≤ n) (h2 : n ≤ 60) (hN0 : 0 < N) (hN72 : N ≤ 72) (v : Value) (L U : Nat) (w : World) (hS : Sl w L U v xs) :
    Calls Tryd.prog 16 #[(.int .i64 n), v] w (RetEn (endF (cus n N).1 (ledL n 0 (-1) 1 0 (ln n)) xs (cus n N).2 N) 0 w) := by
  obtain ⟨av, cv, rfl⟩ : ∃ a c, v = .slice a xs.length c := by obtain ⟨_, a, c, e, _⟩ := hS; exact ⟨a, c, e⟩
  have HC := Lib.hid (fun (w : World) hM => l08Sums_is n 1 (by omega) (.slice (some ⟨w.heap.size, 0, none⟩) 1 1) (fun _ => .slice av xs.length cv) (fun _ => xs) (fun _ _ => by omega) 0 hc (w.alloc (.cells #[.slice av xs.length cv] 22)) hM)
  have HM := Lib.hid (Mixes.one rfl _ xs L U hS)
  have HX := Lib.hid hS
  have HB := Lib.hid (And.intro h1 h2)
  have HL := Lib.hid (fun w => l06Line_is n h1 h2 w)
  have HU := Lib.hid (fun v L w hG => l06Cusps_is n h1 h2 v L w hG N hN)
  have hpl : (prs (ln n)).length = N := by simp [prs, hN]
  have HPL := Lib.hid hpl
  have HNL := Lib.hid hN
  have hol := (cus_len n N).1
  rw [hN] at hol
  have hob : ∀ i, i < N → 0 ≤ (cus n N).1.getD i 0 ∧ (cus n N).1.getD i 0 < ((cus n N).2 : Int) := (cys_rowsE h1 hN (fun i hi => (cus_cl h1 N (by omega)).2 i hi)).2.1
  have hml := (cus_len n N).2
  have HOB := Lib.hid (And.intro hol hob)
  have hmk2 := mk64E (cus n N).2 (by omega)
  generalize hled : ledL n 0 (-1) 1 0 (ln n) = led at *
  have HLD := Lib.hid hled
  generalize (cus n N).1 = o at *
  generalize (cus n N).2 = m at *
  rw [hxl] at HC HM HX ⊢
  have HXL := Lib.hid hxl
  clear hc hN hxl hS hpl hol hob hled
  go_enter Tryd.func16, Tryd.ntmps16
  go_wp2_with fail
  refine (HC.out _ HM.out).mono ?_
  rintro e w2 ⟨rfl, hb2⟩
  have T2 : Below w.heap.size w w2 := own_trans (own_alloc (own_refl w) _) hb2
  clear hb2
  go_wp2_with fail
  refine (HL.out _).mono ?_
  rintro e w3 ⟨v3, rfl, G3, hb3⟩
  obtain ⟨ad, cap, e⟩ := G3.shape
  subst e
  rw [HPL.out] at G3 ⊢
  go_wp2_with fail
  refine (HU.out _ _ _ G3).mono ?_
  rintro e w4 ⟨v4, rfl, G4, hb4⟩
  obtain ⟨a4, c4, e⟩ := G4.shape
  subst e
  rw [HOB.out.1] at G4 ⊢
  have T4 := own_trans T2 (own_trans hb3 hb4)
  have G3 := G3.own hb4
  obtain ⟨g4, e, _, u4, hc4⟩ := G4.cellsZ hN0
  subst e
  have H4 := Lib.hid (fun k hk => (hc4 k hk).1)
  have HG := Lib.hid G3
  clear hb3 hb4 T2 hc4 G3 G4
  have GE := litE (w := w4) (L := w.heap.size) rfl T4.size m (by omega)
  have TE := own_alloc (own_refl w4) (.cells (Array.replicate m (.int .i64 0)) 2)
  go_upto_region 7 with fail
  obtain ⟨ge, hge⟩ : ∃ g, w4.heap.size = g := ⟨_, rfl⟩
  rw [hge] at GE
  have hgw : w4.heap.size ≤ ge := by omega
  simp only [hge]
  generalize w4.alloc (.cells (Array.replicate m (.int .i64 0)) 2) = w5 at *
  have hge' : w4.heap.size = ge := hge
  have HGE := Lib.hid hge'
  clear hge hge'
  go_wp2_with fail
  go_loopw [11] (fun x wi => ∃ k : Nat, k ≤ N ∧ x = (.int .i64 ((k : Int))) ∧ Gr wi w.heap.size (.slice (some ⟨ge, 0, none⟩) m m) (endF o led xs m k) ∧ Below w4.heap.size w4 wi) (fun x _ => N - (intOf x).toNat)
  case atStart => exact ⟨0, Nat.zero_le _, rfl, GE, TE⟩
  case round =>
    obtain ⟨k, hk, rfl, GD, T⟩ := hrel
    by_cases hlt : k < N
    · have hjx : k < (prs (ln n)).length := by rw [HPL.out]; exact hlt
      have hjl : k < (ln n).length := by rw [HNL.out]; exact hlt
      obtain ⟨vs, HV⟩ := HG.out
      obtain ⟨gl, e, _, bl, hcl⟩ := HV.rowAt rfl (by omega)
      subst e
      have c0 := hcl k hjx
      have hrow := HV.row hjx
      rw [prs_get hjl] at hrow
      obtain ⟨ad3, cap3, e3⟩ := hrow.shape
      rw [e3] at hrow c0
      obtain ⟨g3, e, _, b3, hc3⟩ := hrow.cellsZ (by simp)
      subst e
      have c1 := (hc3 0 (by simp)).1
      have c2 := (hc3 1 (by simp)).1
      simp only [List.length_cons, List.length_nil, List.getD_cons_zero, List.getD_cons_succ, Nat.zero_add, Nat.reduceAdd] at c0 c1 c2
      have d0 := (T.cell (p := ⟨gl, k, none⟩) bl).trans c0
      have d1 := (T.cell (p := ⟨g3, 0, none⟩) b3).trans c1
      have d2 := (T.cell (p := ⟨g3, 1, none⟩) b3).trans c2
      have d3 := (T.cell (p := ⟨g4, k, none⟩) u4).trans (H4.out k hlt)
      clear hcl hc3 hrow e3 c0 c1 c2
      obtain ⟨m1, m2, m3, m4, m5⟩ := ln_at HB.out.1 hjl
      have E1 := ledL_at n 0 (-1) 1 0 hjl
      rw [HLD.out] at E1
      have hp : isP n ((ln n).getD k (0, 0)).1 ((ln n).getD k (0, 0)).2 = true := by
        unfold okP at m5
        simp only [Bool.and_eq_true] at m5
        exact m5.1
      have hn60 := HB.out
      generalize ((ln n).getD k (0, 0)).1 = p at *
      generalize ((ln n).getD k (0, 0)).2 = q at *
      rw [show p * 0 + q * 1 = q by omega, show p * -1 + q * 0 = -p by omega] at E1
      have hjN := (kOf_spec hn60.1 (isP_S hp)).1
      rw [HNL.out] at hjN
      have HA := Lib.hid (fun v L w hG => l06Number_is n q (-p) hn60.1 hn60.2 (by unfold I64; omega) (by unfold I64; omega) (isP_S hp) (kOf n q (-p)) (kOf_spec hn60.1 (isP_S hp)).1 (kOf_spec hn60.1 (isP_S hp)).2 v L w hG)
      generalize kOf n q (-p) = j at *
      have d4 := (T.cell (p := ⟨g4, j, none⟩) u4).trans (H4.out j hjN)
      obtain ⟨oa1, oa2⟩ := HOB.out.2 k hlt
      obtain ⟨ob1, ob2⟩ := HOB.out.2 j hjN
      obtain ⟨a, ha⟩ : ∃ a : Nat, o.getD k 0 = (a : Int) := ⟨(o.getD k 0).toNat, by omega⟩
      obtain ⟨b, hb⟩ : ∃ b : Nat, o.getD j 0 = (b : Int) := ⟨(o.getD j 0).toNat, by omega⟩
      have hac : a < m := by omega
      have hbc : b < m := by omega
      have HEF : Hid (endF o led xs m (k + 1) = endR (endF o led xs m k) a b (xs.getD k 0)) := Lib.hid (by rw [endF, E1, Int.toNat_natCast, ha, hb, Int.toNat_natCast, Int.toNat_natCast])
      rw [ha] at d3
      rw [hb] at d4
      have hw2 : IntKind.i64.wrap (-p) = -p := IntWalk.i64_in _ (by omega)
      clear E1 m5 hp hjx hjl oa1 oa2 ob1 ob2 ha hb
      have hzT := T.size
      have f1 : gl < wr.heap.size := by omega
      have f2 : g3 < wr.heap.size := by omega
      have f3 : g4 < wr.heap.size := by omega
      go_upto_region 10 with fail
      go_cut [12, 13] (fun x y wx => x = (.int .i64 ((a : Int))) ∧ y = (.int .i64 ((b : Int))) ∧ Below wr.heap.size wr wx)
      case first =>
        go_region_held3 (fun w' => w'.cell? ⟨gl, k, none⟩ = some (.slice (some ⟨g3, 0, none⟩) 2 cap3) ∧ w'.cell? ⟨g3, 0, none⟩ = some (.int .i64 p) ∧ w'.cell? ⟨g3, 1, none⟩ = some (.int .i64 q) ∧ w'.cell? ⟨g4, k, none⟩ = some (.int .i64 ((a : Int))) ∧ w'.cell? ⟨g4, j, none⟩ = some (.int .i64 ((b : Int)))) (go_keep)
          (first
            | (go_at_call 31; refine (HA.out _ _ _ ⟨vs, HV.own (own_trans T (own_drew (own_refl wr)))⟩).mono ?_; rintro e w6 ⟨rfl, hb6⟩; have T6 := own_trans (own_drew (own_refl wr)) hb6; have e0 := (T6.cell (p := ⟨gl, k, none⟩) f1).trans d0; have e1 := (T6.cell (p := ⟨g3, 0, none⟩) f2).trans d1; have e2 := (T6.cell (p := ⟨g3, 1, none⟩) f2).trans d2; have e3 := (T6.cell (p := ⟨g4, k, none⟩) f3).trans d3; have e4 := (T6.cell (p := ⟨g4, j, none⟩) f3).trans d4; clear hb6))
        all_goals
          go_wp2_with fail
          go_meet
          exact ⟨rfl, rfl, T6⟩
      case rest =>
        obtain ⟨rfl, rfl, T6⟩ := hcut
        have GD := GD.own T6
        have T := own_trans T T6
        clear T6 d0 d1 d2 d3 d4
        generalize wc = w7 at *
        obtain ⟨-, hU, hxc⟩ := slice_at (HX.out.own (own_trans T4 T))
        obtain ⟨gx, off, e, _, hgx, hxd⟩ := hxc (by rw [HXL.out]; exact hN0)
        subst e
        have cx := (hxd k (by rw [HXL.out]; exact hlt)).1
        have HUw := HX.out.1
        have hz4 := T4.size
        have q5 : ¬ gx = ge := by omega
        have q6 : ¬ ge = gx := by omega
        obtain ⟨_, e, _, _, hce⟩ := GD.cellsZ (by omega)
        injection e with e; injection e with e; subst e
        obtain ⟨ce, fe⟩ := hce a hac
        have hEl := endF_len o led xs m k
        clear hxc hxd hce
        generalize endF o led xs m k = E at *
        generalize xs.getD k 0 = x at *
        obtain ⟨z, hz⟩ : ∃ z, E.getD a 0 = z := ⟨_, rfl⟩
        obtain ⟨y, hy⟩ : ∃ y, wrap64 (z + x) = y := ⟨_, rfl⟩
        have X1 : IntKind.i64.wrap (z + x) = y := (wrapEn _).trans hy
        rw [hz] at ce
        have GA := putE GD hEl hac (y := y)
        have TA := own_setCell T (p := ⟨ge, a, none⟩) hgw (.int .i64 y)
        obtain ⟨_, e, _, _, hce⟩ := GA.cellsZ (by omega)
        injection e with e; injection e with e; subst e
        obtain ⟨ce2, fe2⟩ := hce b hbc
        obtain ⟨z2, hz2⟩ : ∃ z, (E.set a y).getD b 0 = z := ⟨_, rfl⟩
        obtain ⟨y2, hy2⟩ : ∃ y, wrap64 (z2 - x) = y := ⟨_, rfl⟩
        have X2 : IntKind.i64.wrap (z2 - x) = y2 := (wrapEn _).trans hy2
        rw [hz2] at ce2
        have GB := putE GA (by rw [List.length_set]; exact hEl) hbc (y := y2)
        have TB := own_setCell TA (p := ⟨ge, b, none⟩) hgw (.int .i64 y2)
        have HE2 : Hid (endF o led xs m (k + 1) = (E.set a y).set b y2) := Lib.hid (by rw [HEF.out, endR, hz, hy, hz2, hy2])
        clear hz hz2 hce HUw hU hgx
        go_wp2
        go_region
        generalize hwB : w7.setCell ⟨ge, a, none⟩ (.int .i64 y) = wB at *
        obtain ⟨-, cx2, -⟩ : True ∧ wB.cell? ⟨gx, off + k, none⟩ = some (.int .i64 x) ∧ True := ⟨trivial, by rw [← hwB]; exact (World.cell?_of_block (w := w7) (a := ⟨gx, off + k, none⟩) (Below.heap_setCell w7 ⟨ge, a, none⟩ (.int .i64 y) gx q5)).trans cx, trivial⟩
        clear hwB cx ce fe GD T GA TA
        go_wp2
        go_region
        go_wp2_with fail
        go_roundw
        case rel => exact ⟨k + 1, by omega, by go_num, by rw [HE2.out]; first | exact GB | exact GB.drew, by repeat (first | with_reducible exact own_refl _ | with_reducible assumption | with_reducible apply own_alloc | with_reducible apply own_drewN | with_reducible apply own_drew | ((with_reducible refine own_setCell ?_ ?_ _); rotate_left; focus (first | (simp; done) | (simp; omega))) | (with_reducible (refine own_trans ?_ (by assumption))))⟩
        case measure => simp [intOf]; omega
    · obtain rfl : k = N := by omega
      clear hlt
      go_wp2
      go_ret2
      exact ⟨_, rfl, Gr.sl GD, own_trans T4 T⟩
end Go.Proofs.YtdcomnnpnhinfaaDoor
/- Actions: lists of the numbers below n, the points met, renumbered lists. Mathematics only. -/
namespace Go.Proofs.YtdcomnnpnhinfaaDoor

/-- each number is below the flags' count and met once -/
def ordG : List Int → List Bool → Bool
  | [], _ => true
  | x :: r, m => if 0 ≤ x ∧ x < (m.length : Int) ∧ m.getD x.toNat false = false then ordG r (m.set x.toNat true) else false
def ord (xs : List Int) (n : Nat) : Bool := decide (xs.length = n) && ordG xs (List.replicate n false)
/-- where a list leads a number -/
def pt (xs : List Int) (i : Nat) : Nat := (xs.getD i 0).toNat
theorem getB_set {m : List Bool} {i j : Nat} (hj : j < m.length) : (m.set j true).getD i false = if i = j then true else m.getD i false := by
  by_cases e : i = j
  · subst e; simp [List.getD, hj]
  · rw [if_neg e]; simp [List.getD, List.getElem?_set_ne (Ne.symm e)]
theorem ordG_is : ∀ (xs : List Int) (m : List Bool), ordG xs m = true → xs.Nodup ∧ ∀ x ∈ xs, 0 ≤ x ∧ x < (m.length : Int) ∧ m.getD x.toNat false = false
  | [], _, _ => by simp
  | x :: r, m, h => by
    rw [ordG] at h
    by_cases hx : 0 ≤ x ∧ x < (m.length : Int) ∧ m.getD x.toNat false = false
    · rw [if_pos hx] at h
      obtain ⟨h1, h2⟩ := ordG_is r _ h
      have hl : x.toNat < m.length := by omega
      have h3 : ∀ y ∈ r, 0 ≤ y ∧ y < (m.length : Int) ∧ y ≠ x ∧ m.getD y.toNat false = false := fun y hy => by
        obtain ⟨a, b, c⟩ := h2 y hy
        rw [List.length_set] at b
        rw [getB_set hl] at c
        by_cases e : y.toNat = x.toNat
        · rw [if_pos e] at c; simp at c
        · rw [if_neg e] at c
          exact ⟨a, b, fun he => e (by rw [he]), c⟩
      refine ⟨List.nodup_cons.2 ⟨fun hm => (h3 x hm).2.2.1 rfl, h1⟩, fun y hy => ?_⟩
      rcases List.mem_cons.1 hy with rfl | hy
      · exact hx
      · obtain ⟨a, b, _, c⟩ := h3 y hy
        exact ⟨a, b, c⟩
    · rw [if_neg hx] at h
      simp at h
/-- a list of the numbers below n, each once -/
structure Pm (xs : List Int) (n : Nat) : Prop where
  len : xs.length = n
  nodup : xs.Nodup
  bd : ∀ x ∈ xs, 0 ≤ x ∧ x < (n : Int)
theorem ord_is {xs : List Int} {n : Nat} (h : ord xs n = true) : Pm xs n := by
  rw [ord, Bool.and_eq_true] at h
  obtain ⟨h1, h2⟩ := ordG_is xs _ h.2
  have h0 : xs.length = n := of_decide_eq_true h.1
  refine ⟨h0, h1, fun x hx => ?_⟩
  obtain ⟨a, b, _⟩ := h2 x hx
  rw [List.length_replicate] at b
  exact ⟨a, b⟩
theorem getD_mem {xs : List Int} {i : Nat} (h : i < xs.length) : xs.getD i 0 ∈ xs := by
  have : xs.getD i 0 = xs[i] := by simp [List.getD, h]
  rw [this]
  exact List.getElem_mem h
/-- the numbers of a list lie below n -/
def Bd (xs : List Int) (n : Nat) : Prop := ∀ i, i < xs.length → 0 ≤ xs.getD i 0 ∧ xs.getD i 0 < (n : Int)
theorem Bd.at {xs : List Int} {n : Nat} (h : Bd xs n) {i : Nat} (hi : i < xs.length) : xs.getD i 0 = (pt xs i : Int) ∧ pt xs i < n := by
  obtain ⟨a, b⟩ := h i hi
  unfold pt
  omega
theorem Pm.b {xs : List Int} {n : Nat} (h : Pm xs n) : Bd xs n := fun _ hi => h.bd _ (getD_mem hi)
theorem Pm.at {xs : List Int} {n : Nat} (h : Pm xs n) {i : Nat} (hi : i < n) : xs.getD i 0 = (pt xs i : Int) ∧ pt xs i < n := h.b.at (by rw [h.len]; exact hi)
theorem nodup_at {xs : List Int} (h : xs.Nodup) {i j : Nat} (hi : i < xs.length) (hj : j < xs.length) (e : xs.getD i 0 = xs.getD j 0) : i = j := by
  have e1 : xs.getD i 0 = xs[i] := by simp [List.getD, hi]
  have e2 : xs.getD j 0 = xs[j] := by simp [List.getD, hj]
  rw [e1, e2] at e
  have hp := List.pairwise_iff_getElem.1 h
  rcases Nat.lt_trichotomy i j with h1 | h1 | h1
  · exact absurd e (hp i j hi hj h1)
  · exact h1
  · exact absurd e.symm (hp j i hj hi h1)
theorem Pm.inj {xs : List Int} {n : Nat} (h : Pm xs n) {i j : Nat} (hi : i < n) (hj : j < n) (e : pt xs i = pt xs j) : i = j := by
  refine nodup_at h.nodup (by rw [h.len]; exact hi) (by rw [h.len]; exact hj) ?_
  rw [(h.at hi).1, (h.at hj).1, e]
theorem nodup_le : ∀ (n : Nat) (l : List Int), l.Nodup → (∀ x ∈ l, 0 ≤ x ∧ x < (n : Int)) → l.length ≤ n
  | 0, l, _, h => by
    cases l with
    | nil => simp
    | cons x r => have := h x List.mem_cons_self; omega
  | n + 1, l, hd, h => by
    have h1 := nodup_le n (l.erase (n : Int)) (hd.erase _) fun x hx => by
      rw [hd.mem_erase_iff] at hx
      have := h x hx.2
      have := hx.1
      omega
    rw [List.length_erase] at h1
    split at h1 <;> omega
/-- a predicate from k on, r numbers -/
def allD (p : Nat → Bool) (k : Nat) : Nat → Bool
  | 0 => true
  | r + 1 => p k && allD p (k + 1) r
theorem allD_at {p : Nat → Bool} : ∀ {r k : Nat}, allD p k r = true → ∀ i, k ≤ i → i < k + r → p i = true
  | 0, k, _, i, h1, h2 => by omega
  | r + 1, k, h, i, h1, h2 => by
    rw [allD, Bool.and_eq_true] at h
    by_cases e : i = k
    · rw [e]; exact h.1
    · exact allD_at h.2 i (by omega) (by omega)
theorem allD_step {p : Nat → Bool} {k n : Nat} (h : k < n) : allD p k (n - k) = (p k && allD p (k + 1) (n - (k + 1))) := by
  obtain ⟨r, hr⟩ : ∃ r, n - k = r + 1 := ⟨n - k - 1, by omega⟩
  rw [hr, allD, show n - (k + 1) = r by omega]
/-- the orders of S, and of T, then S -/
def ok6 (s t : List Int) (i : Nat) : Bool := decide (pt s (pt s i) = i) && decide (pt s (pt t (pt s (pt t (pt s (pt t i))))) = i)
/-- a point joins the points met -/
def addP (ps : List Int) (j : Int) : List Int := if j ∈ ps then ps else ps ++ [j]
def metF (s t : List Int) : Nat → Nat → List Int → List Int
  | 0, _, ps => ps
  | f + 1, k, ps => if k < ps.length then metF s t f (k + 1) (addP (addP ps (s.getD (pt ps k) 0)) (t.getD (pt ps k) 0)) else ps
/-- the points met from a point -/
def met (s t : List Int) (i n : Nat) : List Int := metF s t (n + 1) 0 [(i : Int)]
def isA (s t : List Int) : Bool :=
  decide (1 ≤ s.length) && decide (s.length ≤ 72) && ord s s.length && ord t s.length && allD (ok6 s t) 0 s.length && decide ((met s t 0 s.length).length = s.length)
/-- different numbers below n -/
def PS (n : Nat) (ps : List Int) : Prop := ps.Nodup ∧ ∀ x ∈ ps, 0 ≤ x ∧ x < (n : Int)
theorem PS.le {n : Nat} {ps : List Int} (h : PS n ps) : ps.length ≤ n := nodup_le n ps h.1 h.2
theorem PS.b {n : Nat} {ps : List Int} (h : PS n ps) : Bd ps n := fun _ hi => h.2 _ (getD_mem hi)
theorem PS.add {n : Nat} {ps : List Int} (h : PS n ps) {j : Nat} (hj : j < n) : PS n (addP ps j) := by
  unfold addP
  split
  · exact h
  · rename_i hn
    refine ⟨List.nodup_append.2 ⟨h.1, by simp, fun a ha b hb => ?_⟩, fun x hx => ?_⟩
    · have := List.mem_singleton.1 hb
      rintro rfl
      exact hn (this ▸ ha)
    · rcases List.mem_append.1 hx with hx | hx
      · exact h.2 x hx
      · have := List.mem_singleton.1 hx
        omega
theorem PS.one {n i : Nat} (h : i < n) : PS n [(i : Int)] := ⟨by simp, fun x hx => by have := List.mem_singleton.1 hx; omega⟩
theorem addP_len (ps : List Int) (j : Int) : ps.length ≤ (addP ps j).length := by
  unfold addP
  split <;> simp
theorem metF_ps {s t : List Int} {n : Nat} (hs : Pm s n) (ht : Pm t n) : ∀ (f k : Nat) (ps : List Int), PS n ps → PS n (metF s t f k ps)
  | 0, _, _, h => h
  | f + 1, k, ps, h => by
    rw [metF]
    split
    · rename_i hk
      obtain ⟨e1, e2⟩ := h.b.at hk
      obtain ⟨a1, a2⟩ := hs.at e2
      obtain ⟨b1, b2⟩ := ht.at e2
      refine metF_ps hs ht f _ _ ?_
      rw [a1, b1]
      exact (h.add a2).add b2
    · exact h
theorem met_ps {s t : List Int} {n i : Nat} (hs : Pm s n) (ht : Pm t n) (hi : i < n) : PS n (met s t i n) := metF_ps hs ht _ _ _ (.one hi)
/-- what holds of an action -/
structure IsA (s t : List Int) (n : Nat) : Prop where
  n1 : 1 ≤ n
  n72 : n ≤ 72
  pS : Pm s n
  pT : Pm t n
  two : ∀ i, i < n → pt s (pt s i) = i
  six : ∀ i, i < n → pt s (pt t (pt s (pt t (pt s (pt t i))))) = i
  all : (met s t 0 n).length = n
theorem isA_is {s t : List Int} (h : isA s t = true) : IsA s t s.length := by
  simp only [isA, Bool.and_eq_true, decide_eq_true_eq] at h
  obtain ⟨⟨⟨⟨⟨h1, h2⟩, h3⟩, h4⟩, h5⟩, h6⟩ := h
  have h7 := allD_at h5
  refine ⟨h1, h2, ord_is h3, ord_is h4, fun i hi => ?_, fun i hi => ?_, h6⟩
  · have := h7 i (by omega) (by omega)
    rw [ok6, Bool.and_eq_true] at this
    exact of_decide_eq_true this.1
  · have := h7 i (by omega) (by omega)
    rw [ok6, Bool.and_eq_true] at this
    exact of_decide_eq_true this.2
/-- a list led along another, renumbered -/
def renF (p s : List Int) : Nat → List Int
  | 0 => List.replicate p.length 0
  | k + 1 => (renF p s k).set (pt p k) (p.getD (pt s k) 0)
def ren (p s : List Int) : List Int := renF p s p.length
theorem renF_len (p s : List Int) : ∀ k, (renF p s k).length = p.length
  | 0 => by simp [renF]
  | k + 1 => by rw [renF, List.length_set, renF_len p s k]
theorem ren_len (p s : List Int) : (ren p s).length = p.length := renF_len p s _
/-- the numbers of the points met, in their order -/
def numF (ms : List Int) (n : Nat) : Nat → List Int
  | 0 => List.replicate n 0
  | k + 1 => (numF ms n k).set (pt ms k) (k : Int)
def num (ms : List Int) (n : Nat) : List Int := numF ms n ms.length
theorem numF_len (ms : List Int) (n : Nat) : ∀ k, (numF ms n k).length = n
  | 0 => by simp [numF]
  | k + 1 => by rw [numF, List.length_set, numF_len ms n k]
theorem num_len (ms : List Int) (n : Nat) : (num ms n).length = n := numF_len ms n _
theorem getI_set {m : List Int} {i j : Nat} {x : Int} (hj : j < m.length) : (m.set j x).getD i 0 = if i = j then x else m.getD i 0 := by
  by_cases e : i = j
  · subst e; simp [List.getD, hj]
  · rw [if_neg e]; simp [List.getD, List.getElem?_set_ne (Ne.symm e)]
theorem numF_bd {ms : List Int} {n : Nat} (hm : PS n ms) (h1 : 1 ≤ n) : ∀ k, k ≤ ms.length → Bd (numF ms n k) n
  | 0, _ => fun i hi => by
    simp only [numF, List.length_replicate] at hi
    simp [numF, List.getD, hi]
    omega
  | k + 1, hk => fun i hi => by
    have := hm.le
    rw [numF_len] at hi
    rw [numF, getI_set (by rw [numF_len]; exact (hm.b.at (by omega)).2)]
    split
    · omega
    · exact numF_bd hm h1 k (by omega) i (by rw [numF_len]; exact hi)
theorem num_bd {ms : List Int} {n : Nat} (hm : PS n ms) (h1 : 1 ≤ n) : Bd (num ms n) n := numF_bd hm h1 _ (Nat.le_refl _)
/-- the form from a point -/
def frm (s t : List Int) (i n : Nat) (x : List Int) : List Int := ren (num (met s t i n) n) x
theorem frm_len (s t : List Int) (i n : Nat) (x : List Int) : (frm s t i n x).length = n := by rw [frm, ren_len, num_len]
theorem renF_bd {p s : List Int} {n : Nat} (hp : Bd p n) (hl : p.length = n) (hs : Bd s n) (hsl : s.length = n) (h1 : 1 ≤ n) : ∀ k, k ≤ n → Bd (renF p s k) n
  | 0, _ => fun i hi => by
    simp only [renF, List.length_replicate] at hi
    simp [renF, List.getD, hi]
    omega
  | k + 1, hk => fun i hi => by
    rw [renF_len] at hi
    rw [renF, getI_set (by rw [renF_len, hl]; exact (hp.at (by omega)).2)]
    split
    · have := (hs.at (i := k) (by omega)).2
      exact hp _ (by omega)
    · exact renF_bd hp hl hs hsl h1 k (by omega) i (by rw [renF_len]; exact hi)
theorem ren_bd {p s : List Int} {n : Nat} (hp : Bd p n) (hl : p.length = n) (hs : Bd s n) (hsl : s.length = n) (h1 : 1 ≤ n) : Bd (ren p s) n := renF_bd hp hl hs hsl h1 _ (by omega)
end Go.Proofs.YtdcomnnpnhinfaaDoor
/- Actions: two lists in blocks of their own; the laws' helpers over them. -/
namespace Go.Proofs.YtdcomnnpnhinfaaDoor
open Go.ChangeShapes Go.WideShapes Go.ChangeAt Go.RowKit

/-- block g reads as the list xs -/
def Rc (w : World) (g : Nat) (xs : List Int) : Prop := g < w.heap.size ∧ ∀ k, k < xs.length → w.cell? ⟨g, k, none⟩ = some (.int .i64 (xs.getD k 0))
theorem Rc.below {w w' : World} {g : Nat} {xs : List Int} (h : Rc w g xs) (hb : Below w.heap.size w w') : Rc w' g xs :=
  ⟨Nat.lt_of_lt_of_le h.1 hb.size, fun k hk => (hb.cell (p := ⟨g, k, none⟩) h.1).trans (h.2 k hk)⟩
theorem Rc.low {w w' : World} {g L : Nat} {xs : List Int} (h : Rc w g xs) (hb : Below L w w') (hg : g < L) : Rc w' g xs :=
  ⟨Nat.lt_of_lt_of_le h.1 hb.size, fun k hk => (hb.cell (p := ⟨g, k, none⟩) hg).trans (h.2 k hk)⟩
theorem Rc.alloc {w : World} {g : Nat} {xs : List Int} (h : Rc w g xs) (o : Obj) : Rc (w.alloc o) g xs := h.below (own_alloc (own_refl w) o)
theorem Rc.drew {w : World} {g : Nat} {xs : List Int} (h : Rc w g xs) : Rc w.drew g xs := h
theorem Rc.drewN {w : World} {g : Nat} {xs : List Int} (h : Rc w g xs) (n : Nat) : Rc (w.drewN n) g xs := h
/-- the value v reads as the list xs -/
def Rl (w : World) (v : Value) (xs : List Int) : Prop := ∃ ad cap, v = .slice ad xs.length cap ∧ (0 < xs.length → ∃ g, ad = some ⟨g, 0, none⟩ ∧ Rc w g xs)
theorem Rl.below {w w' : World} {v : Value} {xs : List Int} (h : Rl w v xs) (hb : Below w.heap.size w w') : Rl w' v xs := by
  obtain ⟨ad, cap, e, h⟩ := h
  exact ⟨ad, cap, e, fun h0 => by obtain ⟨g, e, hr⟩ := h h0; exact ⟨g, e, hr.below hb⟩⟩
theorem Rl.alloc {w : World} {v : Value} {xs : List Int} (h : Rl w v xs) (o : Obj) : Rl (w.alloc o) v xs := h.below (own_alloc (own_refl w) o)
theorem Rl.drew {w : World} {v : Value} {xs : List Int} (h : Rl w v xs) : Rl w.drew v xs := h
theorem Gr.rl {w : World} {L : Nat} {v : Value} {xs : List Int} (h : Gr w L v xs) : Rl w v xs := by
  obtain ⟨ad, cap, rfl⟩ := h.shape
  refine ⟨ad, cap, rfl, fun h0 => ?_⟩
  obtain ⟨g, e, _, hg, hc⟩ := h.cellsZ h0
  exact ⟨g, e, hg, fun k hk => (hc k hk).1⟩
theorem Gr.weakL {w : World} {L L' : Nat} {v : Value} {xs : List Int} (h : Gr w L v xs) (hL : L' ≤ L) : Gr w L' v xs := by
  obtain ⟨h1, h2⟩ := h
  refine ⟨h1, ?_⟩
  rcases h2 with h2 | ⟨g, cap, cur, e, hg, h3⟩
  · exact .inl h2
  · exact .inr ⟨g, cap, cur, e, Nat.le_trans hL hg, h3⟩
/-- the value u is an action's two lists, each in a block of its own -/
def AcR (w : World) (L : Nat) (u : Value) (s t : List Int) : Prop :=
  ∃ a b, u = .agg #[a, b] ∧ Gr w L a s ∧ Gr w L b t ∧ ∀ g, a.ownBlock = some g → b.ownBlock ≠ some g
theorem AcR.own {w w' : World} {L : Nat} {u : Value} {s t : List Int} (h : AcR w L u s t) (hb : Below w.heap.size w w') : AcR w' L u s t := by
  obtain ⟨a, b, e, h1, h2, h3⟩ := h
  exact ⟨a, b, e, h1.own hb, h2.own hb, h3⟩
theorem AcR.weak {w : World} {L L' : Nat} {u : Value} {s t : List Int} (h : AcR w L u s t) (hL : L' ≤ L) : AcR w L' u s t := by
  obtain ⟨a, b, e, h1, h2, h3⟩ := h
  exact ⟨a, b, e, h1.weakL hL, h2.weakL hL, h3⟩
/-- the value u reads as an action's two lists -/
def Ac (w : World) (u : Value) (s t : List Int) : Prop := ∃ a b, u = .agg #[a, b] ∧ Rl w a s ∧ Rl w b t
theorem AcR.ac {w : World} {L : Nat} {u : Value} {s t : List Int} (h : AcR w L u s t) : Ac w u s t := by
  obtain ⟨a, b, e, h1, h2, _⟩ := h
  exact ⟨a, b, e, h1.rl, h2.rl⟩
theorem Ac.below {w w' : World} {u : Value} {s t : List Int} (h : Ac w u s t) (hb : Below w.heap.size w w') : Ac w' u s t := by
  obtain ⟨a, b, e, h1, h2⟩ := h
  exact ⟨a, b, e, h1.below hb, h2.below hb⟩
theorem AcR.shape {w : World} {L : Nat} {u : Value} {s t : List Int} (h : AcR w L u s t) : ∃ a c b d, u = .agg #[.slice a s.length c, .slice b t.length d] := by
  obtain ⟨a, b, rfl, h1, h2, _⟩ := h
  obtain ⟨_, _, rfl⟩ := h1.shape
  obtain ⟨_, _, rfl⟩ := h2.shape
  exact ⟨_, _, _, _, rfl⟩
theorem AcR.drew {w : World} {L : Nat} {u : Value} {s t : List Int} (h : AcR w L u s t) : AcR w.drew L u s t := h
theorem AcR.nil (w : World) (L : Nat) : AcR w L (.agg #[.slice none 0 0, .slice none 0 0]) [] [] :=
  ⟨_, _, rfl, Gr.nil _ _, Gr.nil _ _, fun g h => by simp [Value.ownBlock] at h⟩

/-- the first k numbers, then zeros -/
def prt (xs : List Int) (k : Nat) : List Int := xs.take k ++ List.replicate (xs.length - k) 0
theorem prt_len (xs : List Int) (k : Nat) (h : k ≤ xs.length) : (prt xs k).length = xs.length := by simp [prt]; omega
theorem prt_set (xs : List Int) (k : Nat) (hk : k < xs.length) (x : Int) (hx : xs.getD k 0 = x) : (prt xs k).set k x = prt xs (k + 1) := by
  subst hx
  apply List.ext_getElem
  · simp [prt]; omega
  · intro i h1 h2
    simp only [prt, List.getElem_set, List.getElem_append, List.getElem_take, List.length_take, List.getElem_replicate]
    by_cases e : k = i
    · subst e
      simp [hk, List.getD]
      omega
    · rw [if_neg e]
      by_cases h3 : i < k
      · rw [dif_pos (by omega), dif_pos (by omega)]
      · rw [dif_neg (by omega), dif_neg (by omega)]
theorem Gr.lit0 {w : World} {L g : Nat} (hg : w.heap.size = g) (hL : L ≤ g) (n : Nat) (hn : n ≤ 1048576) :
    Gr (w.alloc (.cells (Array.replicate n (.int .i64 0)) 2)) L (.slice (some ⟨g, 0, none⟩) n n) (List.replicate n 0) := by
  subst hg
  have h := World.ownsRow_lit (e := 2) (size := 1) (base := L) w (Array.replicate n (.int .i64 0)) n hL (by unfold maxLen; omega) (by simp)
  unfold Gr
  rw [List.length_replicate]
  simpa using h
theorem mk64 (n : Nat) (hn : n ≤ 1048576) (w : World) : (Instr.makeSlice 22 (.int .i64 n) (.int .i64 n)).run Tryd.prog w =
    .ok (.slice (some ⟨w.heap.size, 0, none⟩) n n) (w.alloc (.cells (Array.replicate n (.int .i64 0)) 2)) := by
  have h := made64T n hn w
  simpa using h
set_option maxHeartbeats 1000000 in
theorem toG_any (a : Option Addr) (cap : Nat) (xs : List Int) (hn : xs.length ≤ 1048576) (w : World) (hr : Rs w a xs) :
    Calls Tryd.prog 17 #[.slice a xs.length cap] w fun e w' => ∃ v, e = .returned v ∧ Gr w' w.heap.size v xs ∧ v.ownBlock = some w.heap.size ∧ Below w.heap.size w w' := by
  rcases Nat.eq_zero_or_pos xs.length with h0 | h0
  · obtain rfl : xs = [] := List.length_eq_zero_iff.1 h0
    clear hr hn h0
    have hmk : ∀ w : World, (Instr.makeSlice 22 (.int .i64 0) (.int .i64 0)).run Tryd.prog w = .ok (.slice (some ⟨w.heap.size, 0, none⟩) 0 0) (w.alloc (.cells #[] 2)) := fun w => by simpa using made64T 0 (by omega) w
    have HZ : Gr (w.alloc (.cells #[] 2)) w.heap.size (.slice (some ⟨w.heap.size, 0, none⟩) 0 0) [] := World.ownsRow_lit w #[] 0 (Nat.le_refl _) (by unfold maxLen; omega) rfl
    have T0 := own_alloc (own_refl w) (.cells #[] 2)
    go_enter Tryd.func17, Tryd.ntmps17
    go_wp2
    generalize w.alloc (.cells #[] 2) = w1 at *
    go_loopw [4] (fun i wr => i = (.int .i64 0) ∧ wr = w1) (fun _ _ => 0)
    case atStart => exact ⟨rfl, rfl⟩
    case round =>
      obtain ⟨rfl, rfl⟩ := hrel
      go_wp2
      go_ret
      exact ⟨_, rfl, HZ, rfl, T0⟩
  · obtain ⟨b, off, rfl, hb, hc⟩ := hr h0
    have HC := Lib.hid hc
    clear hc
    obtain ⟨n, hN⟩ : ∃ n, xs.length = n := ⟨_, rfl⟩
    have HN := Lib.hid hN
    have hmk := mk64 n (by omega)
    have HZ : Gr (w.alloc (.cells (Array.replicate n (.int .i64 0)) 2)) w.heap.size (.slice (some ⟨w.heap.size, 0, none⟩) n n) (prt xs 0) := by
      have := Gr.lit0 (w := w) (L := w.heap.size) rfl (Nat.le_refl _) n (by omega)
      simpa [prt, hN] using this
    have T0 := own_alloc (own_refl w) (.cells (Array.replicate n (.int .i64 0)) 2)
    rw [hN] at hn h0 ⊢
    clear hN
    go_enter Tryd.func17, Tryd.ntmps17
    go_wp2
    generalize w.alloc (.cells (Array.replicate n (.int .i64 0)) 2) = w1 at *
    go_loopw [4] (fun i wr => ∃ k : Nat, k ≤ n ∧ i = (.int .i64 k) ∧ Below w.heap.size w wr ∧ Hid (Gr wr w.heap.size (.slice (some ⟨w.heap.size, 0, none⟩) n n) (prt xs k))) (fun i _ => n - (intOf i).toNat)
    case atStart => exact ⟨0, Nat.zero_le _, rfl, T0, Lib.hid HZ⟩
    case round =>
      obtain ⟨k, hk, rfl, T, HB⟩ := hrel
      by_cases hlt : k < n
      · obtain ⟨x, hx⟩ : ∃ x, xs.getD k 0 = x := ⟨_, rfl⟩
        have hkx : k < xs.length := by rw [HN.out]; exact hlt
        have c1 : wr.cell? ⟨b, off + k, none⟩ = some (.int .i64 x) := by rw [T.cell (p := ⟨b, off + k, none⟩) hb, ← hx]; exact HC.out k hkx
        have hl : (prt xs k).length = n := by rw [prt_len _ _ (by omega)]; exact HN.out
        obtain ⟨g', e, _, _, hcl⟩ := HB.out.cellsZ (by omega)
        injection e with e; injection e with e; subst e
        obtain ⟨c2, f2⟩ := hcl k hlt
        have HS : Hid (Gr (wr.setCell ⟨w.heap.size, k, none⟩ (.int .i64 x)) w.heap.size (.slice (some ⟨w.heap.size, 0, none⟩) n n) (prt xs (k + 1))) := Lib.hid (by
          have h2 := (show Gr wr w.heap.size (.slice (some ⟨w.heap.size, 0, none⟩) (prt xs k).length n) (prt xs k) by rw [hl]; exact HB.out).putZ (k := k) (y := x) (by rw [hl]; exact hlt)
          rw [hl, prt_set xs k hkx x hx] at h2
          exact h2)
        clear hx hcl hl hkx
        go_wp2
        go_roundw
        case rel => exact ⟨k + 1, by omega, by go_num, own_setCell T (Nat.le_refl _) _, HS⟩
        case measure => simp [intOf]; omega
      · have HB2 : Hid (Gr wr w.heap.size (.slice (some ⟨w.heap.size, 0, none⟩) n n) xs) := Lib.hid (by
          have e : prt xs k = xs := by
            have : k = xs.length := by rw [HN.out]; omega
            subst this
            simp [prt]
          rw [← e]; exact HB.out)
        go_wp2
        go_ret
        exact ⟨_, rfl, HB2.out, rfl, T⟩

set_option maxHeartbeats 1000000 in
theorem eqA_same (u v : Value) (s t : List Int) (L L' : Nat) (w : World) (hs : s.length ≤ 4294967296) (ht : t.length ≤ 4294967296) (hu : AcR w L u s t) (hv : AcR w L' v s t) :
    Calls Tryd.prog 10 #[u, v] w fun e w' => e = .returned (.bool true) ∧ Below w.heap.size w w' := by
  obtain ⟨a, b, rfl, ha, hb, _⟩ := hu
  obtain ⟨c, d, rfl, hc, hd, _⟩ := hv
  have HA := Lib.hid (fun w' (h : Below w.heap.size w w') => eqS_same a c s _ _ _ _ w' hs (ha.own h).sl (hc.own h).sl)
  have HB := Lib.hid (fun w' (h : Below w.heap.size w w') => eqS_same b d t _ _ _ _ w' ht (hb.own h).sl (hd.own h).sl)
  obtain ⟨a1, k1, rfl⟩ := ha.shape
  obtain ⟨a2, k2, rfl⟩ := hb.shape
  obtain ⟨a3, k3, rfl⟩ := hc.shape
  obtain ⟨a4, k4, rfl⟩ := hd.shape
  clear ha hb hc hd hs ht
  generalize s.length = n at *
  generalize t.length = m at *
  go_enter Tryd.func10, Tryd.ntmps10
  go_wp2_with fail
  refine (HA.out _ (by repeat (first | with_reducible exact own_refl _ | with_reducible assumption | with_reducible apply own_alloc | with_reducible apply own_drewN | with_reducible apply own_drew | ((with_reducible refine own_setCell ?_ ?_ _); rotate_left; focus (first | (simp; done) | (simp; omega))) | (with_reducible (refine own_trans ?_ (by assumption)))))).mono ?_
  rintro e w2 ⟨rfl, hb2⟩
  have T2 : Below w.heap.size w w2 := by repeat (first | with_reducible exact own_refl _ | with_reducible assumption | with_reducible apply own_alloc | with_reducible apply own_drewN | with_reducible apply own_drew | ((with_reducible refine own_setCell ?_ ?_ _); rotate_left; focus (first | (simp; done) | (simp; omega))) | (with_reducible (refine own_trans ?_ (by assumption))))
  have Bw2_0 : Box w2 (w.heap.size) [.slice a1 n k1, .slice a2 m k2] := by refine Box.below ?_ hb2; repeat (first | with_reducible assumption | with_reducible exact Box.new _ _ _ | (with_reducible refine Box.newAt ?_ _ _; (simp; done)) | with_reducible apply Box.alloc | with_reducible apply Box.drewN | with_reducible apply Box.drew)
  obtain ⟨_, _, _, _, _⟩ := Bw2_0.two
  have Bw2_1 : Box w2 (w.heap.size + 1) [.slice a3 n k3, .slice a4 m k4] := by refine Box.below ?_ hb2; repeat (first | with_reducible assumption | with_reducible exact Box.new _ _ _ | (with_reducible refine Box.newAt ?_ _ _; (simp; done)) | with_reducible apply Box.alloc | with_reducible apply Box.drewN | with_reducible apply Box.drew)
  obtain ⟨_, _, _, _, _⟩ := Bw2_1.two
  go_wp2_with fail
  refine (HB.out _ (by repeat (first | with_reducible exact own_refl _ | with_reducible assumption | with_reducible apply own_alloc | with_reducible apply own_drewN | with_reducible apply own_drew | ((with_reducible refine own_setCell ?_ ?_ _); rotate_left; focus (first | (simp; done) | (simp; omega))) | (with_reducible (refine own_trans ?_ (by assumption)))))).mono ?_
  rintro e w4 ⟨rfl, hb4⟩
  go_wp2
  go_ret
  exact ⟨rfl, own_trans T2 hb4⟩
end Go.Proofs.YtdcomnnpnhinfaaDoor
/- The walk of the law FnExactEndsOf. -/
namespace Go.Proofs.YtdcomnnpnhinfaaDoor
open Go.ChangeShapes Go.WideShapes Go.ChangeAt Go.RowKit

theorem Sl.grownEn {w w' : World} {L U : Nat} {v : Value} {xs : List Int} {row : Option Nat} (h : Sl w L U v xs) (hg : w.grownBy w' row) (hr : ∀ b, row = some b → b < L ∨ U ≤ b) : Sl w' L U v xs := by
  obtain ⟨hu, a, cap, rfl, hc⟩ := h
  refine ⟨Nat.le_trans hu hg.4, a, cap, rfl, fun hn => ?_⟩
  obtain ⟨g, off, rfl, hg1, hg2, hcell⟩ := hc hn
  refine ⟨g, off, rfl, hg1, hg2, fun k hk => ?_⟩
  have hb := hg.5 g (by omega) (fun e => by rcases hr g e.symm with h | h <;> omega)
  exact ⟨(World.cell?_of_block (w := w) (a := ⟨g, off + k, none⟩) hb).trans (hcell k hk).1, (World.frozen?_of_block (w := w) (a := ⟨g, off + k, none⟩) hb).trans (hcell k hk).2⟩
set_option maxRecDepth 100000 in
set_option maxHeartbeats 4000000 in
theorem lawEn_of (n : Int) (xs es : List Int) (ad : Option Addr) (cap : Nat) (k : Int) (hn : xs.length ≤ 1048576) (he : es.length ≤ 1048576)
    (hs : ∀ (v : Value) (L U : Nat) (w : World), Sl w L U v xs → Calls Tryd.prog 16 #[(.int .i64 n), v] w (RetEn es k w))
    (hi : ∀ (v : Value) (L U : Nat) (w : World), Sl w L U v xs → MxS w → Calls Tryd.prog 18 #[(.int .i64 n), v] w (RetEn es k w)) (w : World) (hr : Rs w ad xs) (hid : MxS w) :
    Calls Tryd.prog 5 #[(.int .i64 n), .slice ad xs.length cap] w fun e w' => e = .returned (.bool true) ∧ Below w.heap.size w w' := by
  have HS := Lib.hid hs
  have HI := Lib.hid hi
  have HM := Lib.hid hid
  have hn1 : (xs.length : Int) ≤ 1048576 := by omega
  have HT := Lib.hid (fun w' (h : Below w.heap.size w w') => toG_any ad cap xs hn w' (hr.below h))
  have HE := Lib.hid (fun v u L U L' U' w hu hv => eqS_same v u es L U L' U' w (by omega) hu hv)
  have HX := Lib.hid (fun v u L U L' U' w hu hv => eqS_same v u xs L U L' U' w (by omega) hu hv)
  have HMx := Lib.hid (fun v L w hu => markG_any v xs 1 L w (by omega) (by omega) (by omega) hu)
  have HMe := Lib.hid (fun v L U w hu => markS_any v es 1 L U w (by omega) (by omega) (by omega) hu)
  have HHe := Lib.hid (fun v L U w hu => heldS_ramp v 1 es.length L U w (by omega) (by omega) (by omega) hu)
  have hk : 0 ≤ 1 + (xs.length : Int) := by omega
  have hk2 : 0 ≤ 1 + (es.length : Int) := by omega
  clear hs hi hid hr
  go_enter Tryd.func5, Tryd.ntmps5
  go_wp2_with fail
  refine (HT.out _ (own_refl w)).mono ?_
  rintro e w1 ⟨v1, rfl, G1, -, hb1⟩
  go_wp2_with fail
  refine (HS.out _ _ _ _ G1.sl).mono ?_
  rintro e w2 ⟨v2, rfl, s2, hb2⟩
  have T2 := own_trans hb1 hb2
  clear G1
  go_wp2_with fail
  refine (HT.out _ T2).mono ?_
  rintro e w3 ⟨v3, rfl, G3, o3, hb3⟩
  have T3 := own_trans T2 hb3
  have z3 := (G3.lt _ o3).2
  go_wp2_with fail
  refine (HI.out _ _ _ _ G3.sl (Rd.below HM.out T3)).mono ?_
  rintro e w4 ⟨v4, rfl, s4, hb4⟩
  have T4 := own_trans T3 hb4
  have s2 := (s2.own hb3).own hb4
  have G3 := G3.own hb4
  have z4 := hb4.size
  go_wp2_with fail
  refine (HE.out _ _ _ _ _ _ _ s4 s2).mono ?_
  rintro e w5 ⟨rfl, hb5⟩
  have T5 := own_trans T4 hb5
  have s2 := s2.own hb5
  have s4 := s4.own hb5
  have G3 := G3.own hb5
  go_wp2_with fail
  refine (HT.out _ T5).mono ?_
  rintro e w6 ⟨v6, rfl, G6, -, hb6⟩
  have T6 := own_trans T5 hb6
  have s2 := s2.own hb6
  have s4 := s4.own hb6
  have G3 := G3.own hb6
  go_wp2_with fail
  refine (HX.out _ _ _ _ _ _ _ G3.sl G6.sl).mono ?_
  rintro e w7 ⟨rfl, hb7⟩
  have T7 := own_trans T6 hb7
  have s2 := s2.own hb7
  have s4 := s4.own hb7
  have G3 := G3.own hb7
  clear G6 hb5 hb6 hb7
  have hz2 : w.heap.size ≤ w2.heap.size := T2.size
  go_wp2_with fail
  refine (HMx.out _ _ _ G3).mono ?_
  rintro e w8 ⟨rfl, -, hg8⟩
  rw [o3] at hg8
  have T8 := T7.grown hg8 T7.size (fun b hb => by injection hb with hb; omega)
  have s2 := s2.grownEn hg8 (fun b hb => by injection hb with hb; omega)
  have s4 := s4.grownEn hg8 (fun b hb => by injection hb with hb; omega)
  clear G3 hg8
  go_wp2_with fail
  refine (HE.out _ _ _ _ _ _ _ s4 s2).mono ?_
  rintro e w9 ⟨rfl, hb9⟩
  have T9 := own_trans T8 hb9
  have s2 := s2.own hb9
  have s4 := s4.own hb9
  clear hb9
  go_wp2_with fail
  refine (HMe.out _ _ _ _ s4).mono ?_
  rintro e w10 ⟨rfl, s4, hb10⟩
  have s2 := s2.below (hb10.mono (by omega))
  have T10 := T9.trans (hb10.mono (by omega))
  clear hb10
  go_wp2_with fail
  refine (HHe.out _ _ _ _ s4).mono ?_
  rintro e w11 ⟨rfl, rfl⟩
  go_wp2_with fail
  refine (HT.out _ T10).mono ?_
  rintro e w12 ⟨v12, rfl, G12, -, hb12⟩
  have T12 := own_trans T10 hb12
  have s2 := s2.own hb12
  have s4 := s4.own hb12
  go_wp2_with fail
  refine (HI.out _ _ _ _ G12.sl (Rd.below HM.out T12)).mono ?_
  rintro e w13 ⟨v13, rfl, s13, hb13⟩
  have T13 := own_trans T12 hb13
  have s2 := s2.own hb13
  have s4 := s4.own hb13
  go_wp2_with fail
  refine (HE.out _ _ _ _ _ _ _ s13 s2).mono ?_
  rintro e w14 ⟨rfl, hb14⟩
  have T14 := own_trans T13 hb14
  have s4 := s4.own hb14
  go_wp2_with fail
  refine (HHe.out _ _ _ _ s4).mono ?_
  rintro e w15 ⟨rfl, rfl⟩
  go_wp2
  go_ret
  exact ⟨rfl, T14⟩
theorem lawEn_long (n : Int) (xs : List Int) (ad : Option Addr) (cap : Nat) (hn : ¬ xs.length ≤ 1048576) (hx : xs.length ≤ 9223372036854775807) (w : World) :
    Calls Tryd.prog 5 #[(.int .i64 n), .slice ad xs.length cap] w fun e w' => e = .returned (.bool true) ∧ Below w.heap.size w w' := by
  have hx1 : (1048576 : Int) < (xs.length : Int) := by omega
  clear hn
  go_enter Tryd.func5, Tryd.ntmps5
  go_wp2
  go_ret
  exact ⟨rfl, own_refl _⟩
/-- a mix that is one has the line's length -/
theorem mxC_one {n : Int} {xs : List Int} (h : mxC n 1 (fun _ => xs) = 0) : 1 ≤ n ∧ n ≤ 60 ∧ xs.length = (ln n).length ∧ 0 < (ln n).length ∧ (ln n).length ≤ 72 := by
  unfold mxC at h
  split at h
  · rename_i hl
    split at h
    · rename_i ha
      have hn' : 1 ≤ n ∧ n ≤ 60 := of_decide_eq_true (lvC_0 hl).1
      have hlen := lvC_len hl
      have hm : mixOk (idx0 n) xs = true := by simpa [allOk] using ha
      unfold mixOk at hm
      simp only [Bool.and_eq_true, decide_eq_true_eq] at hm
      obtain ⟨K, hK, _⟩ := nrm_in hn'.1 (show isP n 0 1 = true by simp [isP])
      exact ⟨hn'.1, hn'.2, by have := hlen.1; have := hm.1; omega, by omega, hlen.2⟩
    · omega
  · rename_i hl
    exact absurd h hl
theorem lawEn_walk (n : Int) (xs : List Int) (ad : Option Addr) (cap : Nat) (w : World) (_ : I64 n) (hr : Rs w ad xs) (_ : ∀ x ∈ xs, I64 x) (hn : xs.length ≤ 9223372036854775807) (hid : MxS w) :
    Calls Tryd.prog 5 #[(.int .i64 n), .slice ad xs.length cap] w fun e w' => e = .returned (.bool true) ∧ Below w.heap.size w w' := by
  by_cases h1 : xs.length ≤ 1048576
  · by_cases hc : mxC n 1 (fun _ => xs) = 0
    · obtain ⟨a, b, c, d, f⟩ := mxC_one hc
      refine lawEn_of n xs _ ad cap 0 h1 ?_ (fun v L U w hS => specEn_yes n xs hc _ rfl c a b d f v L U w hS) (fun v L U w hS hm => implEn_yes n xs hc _ rfl c a b d f v L U w hS hm) w hr hid
      rw [endF_len]
      have := (cus_len n (ln n).length).2
      omega
    · exact lawEn_of n xs [] ad cap _ h1 (by simp) (fun v L U w hS => specEn_no n _ xs (by omega) rfl hc v L U w hS) (fun v L U w hS _ => implEn_no n _ xs (by omega) rfl hc v L U w hS) w hr hid
  · exact lawEn_long n xs ad cap h1 hn w
end Go.Proofs.YtdcomnnpnhinfaaDoor
