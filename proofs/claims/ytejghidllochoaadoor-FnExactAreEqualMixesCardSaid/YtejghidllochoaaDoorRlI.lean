/- impl.RelationsOf: contract. -/
import Derived.Test.YtejghidllochoaaDoorFlt
import Derived.Test.YtejghidllochoaaDoorLvC
namespace Go.Proofs.YtejghidllochoaaDoor
open Go.ChangeShapes Go.WideShapes Go.ChangeAt Go.RowKit

theorem Mixes.nil (w : World) (xss : Nat → List Int) : Mixes w (.slice none 0 0) 0 (fun _ => .slice none 0 0) xss := ⟨⟨Option.none, 0, rfl, fun h => by omega⟩, fun k h => by omega⟩
theorem mxC_0 (n : Int) (xss : Nat → List Int) : mxC n 0 xss = lvC n := by
  unfold mxC
  split
  · rename_i h; rw [h]; rfl
  · rfl
theorem ledS_at {n : Int} {k : Nat} (hk : k < (ln n).length) : (ledL n 0 (-1) 1 0 (ln n)).getD k 0 = (kS n k : Int) := by
  rw [ledL_at n 0 (-1) 1 0 hk]
  unfold kS
  congr 2 <;> omega
theorem ledU_at {n : Int} {k : Nat} (hk : k < (ln n).length) : (ledL n 1 (-1) 1 0 (ln n)).getD k 0 = (kU n k : Int) := by
  rw [ledL_at n 1 (-1) 1 0 hk]
  unfold kU
  congr 2 <;> omega
/-- rows that are made so far -/
def relP (n : Int) (N k j : Nat) : List Int := if j < k ∨ (N ≤ j ∧ j < N + k) then rel n N j else zer N
theorem relP_len (n : Int) (N k j : Nat) : (relP n N k j).length = N := by
  unfold relP
  split
  · exact rel_len _ _ _
  · simp [zer]
theorem relP_step {n : Int} {N k : Nat} (hk : k < N) (j : Nat) :
    (if j = N + k then addS ((fun q => if q = k then addS (relP n N k k) 0 [k, kS n k] else relP n N k q) (N + k)) 0 [k, kU n k, kV n k] else (fun q => if q = k then addS (relP n N k k) 0 [k, kS n k] else relP n N k q) j) = relP n N (k + 1) j := by
  have e1 : relP n N k k = zer N := by unfold relP; rw [if_neg (by omega)]
  have e2 : relP n N k (N + k) = zer N := by unfold relP; rw [if_neg (by omega)]
  by_cases h1 : j = N + k
  · subst h1
    rw [if_pos rfl]
    dsimp only
    rw [if_neg (by omega), e2]
    unfold relP rel
    rw [if_pos (by omega), if_neg (by omega), show N + k - N = k by omega]
    rfl
  · rw [if_neg h1]
    dsimp only
    by_cases h2 : j = k
    · subst h2
      rw [if_pos rfl, e1]
      unfold relP rel
      rw [if_pos (by omega), if_pos hk]
      rfl
    · rw [if_neg h2]
      unfold relP
      by_cases h3 : j < k ∨ (N ≤ j ∧ j < N + k)
      · rw [if_pos h3, if_pos (by omega)]
      · rw [if_neg h3, if_neg (by omega)]
theorem slice_to (h M N cap : Nat) (h1 : N ≤ M) (h2 : M ≤ cap) (w : World) : Sem.run Tryd.prog (Instr.slice 22 (.slice (some ⟨h, 0, none⟩) M cap) none (some (.int .i64 (N : Int))) none) w = .ok (.slice (some ⟨h, 0, none⟩) N cap) w := by
  have h3 : N ≤ cap := by omega
  simp [Instr.slice, Instr.sliceBounds, Instr.sliceBound, asIntOf, go_sem, h3]
theorem slice_from (h M N cap R : Nat) (h1 : N < M) (h2 : M ≤ cap) (hR : M - N = R) (w : World) : Sem.run Tryd.prog (Instr.slice 22 (.slice (some ⟨h, 0, none⟩) M cap) (some (.int .i64 (N : Int))) none none) w = .ok (.slice (some ⟨h, N, none⟩) R (cap - N)) w := by
  have h3 : N ≤ M := by omega
  have h4 : cap ≠ N := by omega
  simp [Instr.slice, Instr.sliceBounds, Instr.sliceBound, asIntOf, go_sem, h3, h4, hR]
theorem Flat.cap {w : World} {L g N M h cap : Nat} {xs : List Int} (hF : Flat w L (.slice (some ⟨h, 0, none⟩) M cap) g N M xs) : M ≤ cap := by
  obtain ⟨_, ⟨e, h0⟩ | ⟨b, cp, cur, e, h1, h2, h3, _⟩⟩ := hF.rows
  · cases e
  · injection e with _ _ e
    omega

theorem RowsF.bd {xs : List Int} {N M : Nat} {f : Nat → List Int} {B : Int} (h : RowsF xs N M f) (hl : xs.length = M * N) (hB : 0 ≤ B) (hf : ∀ j, j < M → ∀ i, i < N → 0 ≤ (f j).getD i 0 ∧ (f j).getD i 0 ≤ B) : ∀ q, 0 ≤ xs.getD q 0 ∧ xs.getD q 0 ≤ B := by
  intro q
  by_cases hq : q < M * N
  · have hN : 0 < N := by
      rcases Nat.eq_zero_or_pos N with e | e
      · rw [e, Nat.mul_zero] at hq; omega
      · exact e
    have e := Nat.div_add_mod q N
    rw [Nat.mul_comm] at e
    have hj : q / N < M := (Nat.div_lt_iff_lt_mul hN).2 hq
    have hi := Nat.mod_lt q hN
    have := hf _ hj _ hi
    rw [← h _ hj _ hi, e] at this
    exact this
  · have : xs.getD q 0 = 0 := by simp [List.getD, List.getElem?_eq_none (show xs.length ≤ q by omega)]
    rw [this]
    omega
theorem relP_bd (n : Int) (N k j q : Nat) (h1 : ∀ i, i < N → kS n i < N ∧ kU n i < N ∧ kV n i < N) (hj : j < N + N) : 0 ≤ (relP n N k j).getD q 0 ∧ (relP n N k j).getD q 0 ≤ 100 := by
  unfold relP
  split
  · have := rel_bd n N j q h1 hj
    omega
  · rw [zer_get]
    omega
theorem grown_weak {w w' : World} {row : Option Nat} (h : w.grownBy w' none) : w.grownBy w' row := ⟨h.os, h.tape, h.output, h.size, fun k hk _ => h.block k hk (by simp)⟩
theorem grown_cell {w w' : World} {g b o : Nat} (h : w.grownBy w' (some g)) (hb : b < w.heap.size) (hne : b ≠ g) : w'.cell? ⟨b, o, Option.none⟩ = w.cell? ⟨b, o, Option.none⟩ :=
  World.cell?_of_block (a := ⟨b, o, Option.none⟩) (h.block b hb (fun e => by injection e with e; exact hne e))
theorem Flat.weak {w : World} {L L' g N M : Nat} {v : Value} {xs : List Int} (h : Flat w L v g N M xs) (hL : L' ≤ L) : Flat w L' v g N M xs := ⟨ownsRow_weakZ h.rows hL, ownsRow_weakZ h.flat hL, h.len⟩
theorem Flat.rowsAt {w : World} {L g N M h0 cap : Nat} {xs : List Int} (h : Flat w L (.slice (some ⟨h0, 0, Option.none⟩) M cap) g N M xs) (hM : 0 < M) : h0 < w.heap.size ∧ ∀ k, k < M → w.cell? ⟨h0, k, Option.none⟩ = some (rowV g N k) := by
  obtain ⟨_, _, e, _, h2, _, h3⟩ := h.shape hM
  injection e with e _ _
  injection e with e
  injection e with e
  subst e
  exact ⟨h2, h3⟩
/-- What RelationsOf gives. -/
def RetFl (N M : Nat) (f : Nat → List Int) (w : World) (e : Ending) (w' : World) : Prop :=
  ∃ v g xs, e = .returned (.tuple #[v, (.int .i64 0)]) ∧ Flat w' w.heap.size v g N M xs ∧ RowsF xs N M f ∧ Below w.heap.size w w'
theorem implRel_no (n c : Int) (hc : lvC n = c) (h0 : c ≠ 0) (w : World) : Calls Tryd.prog 11 #[(.int .i64 n)] w fun e w' => e = .returned (.tuple #[.slice none 0 0, (.int .i64 c)]) ∧ Below w.heap.size w w' := by
  have HC := Lib.hid hc
  have hne : (c != 0) = true := by simpa using h0
  clear hc h0
  go_enter Tryd.func11, Tryd.ntmps11
  go_wp2_with fail
  refine (codeOfMixes_is n 0 (by omega) _ _ (fun _ => []) (fun k h => by omega) c (by rw [mxC_0]; exact HC.out) _ (Mixes.nil _ _)).mono ?_
  rintro e w2 ⟨rfl, hb2⟩
  go_wp2
  go_ret2
  exact ⟨rfl, hb2⟩
set_option maxRecDepth 100000 in
set_option maxHeartbeats 4000000 in
theorem implRel_yes (n : Int) (hn : lvC n = 0) (N : Nat) (hN : (ln n).length = N) (w : World) (hid : Idn w) (hmx : MxS w) : Calls Tryd.prog 11 #[(.int .i64 n)] w (RetFl N (N + N) (rel n N) w) := by
  have hn' : 1 ≤ n ∧ n ≤ 60 := of_decide_eq_true (lvC_0 hn).1
  have hN72 : N ≤ 72 := by rw [← hN]; exact (lvC_len hn).2
  have hN0 : 0 < N := by
    obtain ⟨K, hK, _⟩ := nrm_in hn'.1 (show isP n 0 1 = true by simp [isP])
    omega
  have HL := Lib.hid (fun w => levelOf_own n hn'.1 hn'.2 w)
  have hp : ∀ p ∈ ln n, isP n p.1 p.2 = true := fun p hp => by
    have := (lnL_mem hp).2.2.2.2
    unfold okP at this
    simp at this
    exact this.1
  have HS := Lib.hid (fun gu ou cu w hC => led_any n 0 (-1) 1 0 hn'.1 hn'.2 (by omega) (by omega) (by omega) (by omega) (fun p h => by rw [show p.1 * 0 + p.2 * 1 = p.2 by omega, show p.1 * (-1) + p.2 * 0 = -p.1 by omega]; exact isP_S (hp p h)) gu ou cu w hC)
  have HU := Lib.hid (fun gu ou cu w hC => led_any n 1 (-1) 1 0 hn'.1 hn'.2 (by omega) (by omega) (by omega) (by omega) (fun p h => by rw [show p.1 * 1 + p.2 * 1 = p.1 + p.2 by omega, show p.1 * (-1) + p.2 * 0 = -p.1 by omega]; exact isP_U (hp p h)) gu ou cu w hC)
  have HK : Hid (∀ k, k < N → (ledL n 0 (-1) 1 0 (ln n)).getD k 0 = (kS n k : Int) ∧ (ledL n 1 (-1) 1 0 (ln n)).getD k 0 = (kU n k : Int) ∧ kS n k < N ∧ kU n k < N ∧ kV n k < N ∧ kU n (kU n k) = kV n k) := Lib.hid fun k hk => by
    subst hN
    exact ⟨ledS_at hk, ledU_at hk, kS_lt hn'.1 hk, kU_lt hn'.1 hk, kV_lt hn'.1 hk, kU_kU hn'.1 hk⟩
  have e1 : (ledL n 0 (-1) 1 0 (ln n)).length = N := by simp [ledL, hN]
  have e2 : (ledL n 1 (-1) 1 0 (ln n)).length = N := by simp [ledL, hN]
  generalize ledL n 0 (-1) 1 0 (ln n) = l1 at *
  generalize ledL n 1 (-1) 1 0 (ln n) = l2 at *
  have HE := Lib.hid (And.intro e1 e2)
  have HM := Lib.hid (And.intro hid hmx)
  have H0 := Lib.hid hn
  have HZ := Lib.hid (fun w => rowsOfZeros_is (N + N) N ((N + N) * N) rfl (Nat.mul_pos (by omega) hN0) (by omega) (by omega) w)
  have hTb : (N + N) * N ≤ 144 * 72 := Nat.mul_le_mul (by omega) hN72
  clear hn hn' hN hp e1 e2 hid hmx
  go_enter Tryd.func11, Tryd.ntmps11
  go_wp2_with fail
  refine (codeOfMixes_is n 0 (by omega) _ _ (fun _ => []) (fun k h => by omega) 0 (by rw [mxC_0]; exact H0.out) _ (Mixes.nil _ _)).mono ?_
  rintro e w2 ⟨rfl, hb2⟩
  go_wp2_with fail
  refine (HL.out _).mono ?_
  rintro e w3 ⟨gu, ou, cu, rfl, _, hC3, hb3⟩
  have T3 := own_trans hb2 hb3
  go_wp2_with fail
  refine (named_any _ (Rd.below HM.out.1 T3) (Rd.below HM.out.2 T3)).mono ?_
  rintro e w4 ⟨rfl, l4, hb4⟩
  go_wp2_with fail
  have T5 : Below w3.heap.size w3 (w4.alloc (.cells #[(.int .i64 n), .slice (some ⟨gu, ou, none⟩) (cop n n.toNat).length cu] 53)) := own_alloc hb4 _
  have B5 : Box (w4.alloc (.cells #[(.int .i64 n), .slice (some ⟨gu, ou, none⟩) (cop n n.toNat).length cu] 53)) w4.heap.size [(.int .i64 n), .slice (some ⟨gu, ou, none⟩) (cop n n.toNat).length cu] := Box.new _ _ _
  have l5 := l4.below (own_alloc (own_refl w4) (.cells #[(.int .i64 n), .slice (some ⟨gu, ou, none⟩) (cop n n.toNat).length cu] 53))
  generalize w4.alloc (.cells #[(.int .i64 n), .slice (some ⟨gu, ou, none⟩) (cop n n.toNat).length cu] 53) = w5 at *
  have T5 := own_drew T5
  have B5 := B5.drew
  have l5 := l5.drew
  have nS := nm_S l5
  have nU := nm_U l5
  obtain ⟨_, _, _, _, _⟩ := B5.two
  clear l4 hb4
  go_region_held3 (fun w' => w'.cell? ⟨w4.heap.size, 0, none⟩ = some (.int .i64 n) ∧ w'.cell? ⟨w4.heap.size, 1, none⟩ = some (.slice (some ⟨gu, ou, none⟩) (cop n n.toNat).length cu) ∧ (Instr.lookup 55 (.map (some w3.heap.size)) (.string ⟨#[83]⟩) false).run Tryd.prog w' = .ok (.agg #[.int .i64 0, .int .i64 (-1), .int .i64 1, .int .i64 0]) w' ∧ (Instr.lookup 55 (.map (some w3.heap.size)) (.string ⟨#[85]⟩) false).run Tryd.prog w' = .ok (.agg #[.int .i64 1, .int .i64 (-1), .int .i64 1, .int .i64 0]) w') (go_keep)
    (first
      | (go_at_call 38; refine (HU.out _ _ _ _ (hC3.low T6 hC3.1)).mono ?_; rintro e w8 ⟨v8, rfl, G8, hb8⟩; have T8 := own_trans T6 hb8; have B8 := B6.below hb8; have l8 := l6.below hb8; have nS8 := nm_S l8; have nU8 := nm_U l8; have G68 := G6.own hb8; obtain ⟨_, _, _, _, _⟩ := B8.two; clear hb8)
      | (go_at_call 38; refine (HS.out _ _ _ _ (hC3.low T5 hC3.1)).mono ?_; rintro e w6 ⟨v6, rfl, G6, hb6⟩; have T6 := own_trans T5 hb6; have B6 := B5.below hb6; have l6 := l5.below hb6; have nS6 := nm_S l6; have nU6 := nm_U l6; obtain ⟨_, _, _, _, _⟩ := B6.two; clear hb6))
  all_goals
    have T8 := own_trans T3 T8
    clear B5 B6 B8 l5 l6 l8 nS nU nS6 nU6 nS8 nU8 T5 T6 hb2 hb3 hC3 G6 HS HU HL HM H0
    obtain ⟨ad1, cp1, hv6⟩ := G68.shape
    obtain ⟨ad2, cp2, hv8⟩ := G8.shape
    subst hv6 hv8
    rw [HE.out.1] at G68 ⊢
    rw [HE.out.2] at G8 ⊢
    obtain ⟨g1, rfl, _, hg1, hc1⟩ := G68.cellsZ hN0
    obtain ⟨g2, rfl, _, hg2, hc2⟩ := G8.cellsZ hN0
    have HC : Hid (∀ k, k < N → w8.cell? ⟨g1, k, none⟩ = some (.int .i64 ((kS n k : Nat))) ∧ w8.cell? ⟨g2, k, none⟩ = some (.int .i64 ((kU n k : Nat))) ∧ w8.cell? ⟨g2, kU n k, none⟩ = some (.int .i64 ((kV n k : Nat)))) := Lib.hid fun k hk => by
      obtain ⟨q1, q2, q3, q4, q5, q6⟩ := HK.out k hk
      have a1 := (hc1 k hk).1
      have a2 := (hc2 k hk).1
      have a3 := (hc2 (kU n k) q4).1
      rw [q1] at a1
      rw [q2] at a2
      rw [(HK.out _ q4).2.1, q6] at a3
      exact ⟨a1, a2, a3⟩
    clear hc1 hc2 G68 G8
    have hw2 : IntKind.i64.wrap (2 * (N : Int)) = ((N + N : Nat) : Int) := by rw [IntWalk.i64_in _ (by omega)]; omega
    go_wp2_with fail
    refine (HZ.out _).mono ?_
    rintro e w9 ⟨v9, g9, rfl, F9, hb9⟩
    obtain ⟨h0, cap, rfl, hL0, hlt0, hne0, _⟩ := F9.shape (by omega)
    have s1 := slice_to h0 (N + N) N cap (by omega) F9.cap
    have s2 := slice_from h0 (N + N) N cap N (by omega) F9.cap (by omega)
    have R9 : RowsF (zer ((N + N) * N)) N (N + N) (relP n N 0) := fun j hj i hi => by
      rw [zer_get]
      unfold relP
      rw [if_neg (by omega), zer_get]
    clear hw2 HZ
    have T9 := own_trans T8 hb9
    have hz8 := hb9.size
    go_upto_region 8 with fail
    go_quiet (fail)
    have F9 : Flat (w9.drewN nq) w8.heap.size (.slice (some ⟨h0, 0, none⟩) (N + N) cap) g9 N (N + N) (zer ((N + N) * N)) := ⟨F9.rows, F9.flat, F9.len⟩
    have hb9 : Below w8.heap.size w8 (w9.drewN nq) := below_drewN' hb9 nq
    generalize w9.drewN nq = w10 at *
    go_wp2
    go_loopw [45] (fun x wr => ∃ (k : Nat) (xs : List Int), k ≤ N ∧ x = (.int .i64 ((k : Int))) ∧ Flat wr w8.heap.size (.slice (some ⟨h0, 0, none⟩) (N + N) cap) g9 N (N + N) xs ∧ Hid (RowsF xs N (N + N) (relP n N k)) ∧ Below w8.heap.size w8 wr) (fun x _ => N - (intOf x).toNat)
    case atStart => exact ⟨0, _, Nat.zero_le _, rfl, F9, Lib.hid R9, hb9⟩
    case round =>
      obtain ⟨k, xs, hk, rfl, F, HR, T⟩ := hrel
      by_cases hlt : k < N
      · obtain ⟨c1, c2, c3⟩ := HC.out k hlt
        have c1 := (T.cell (p := ⟨g1, k, none⟩) hg1).trans c1
        have c2 := (T.cell (p := ⟨g2, k, none⟩) hg2).trans c2
        have c3 := (T.cell (p := ⟨g2, kU n k, none⟩) hg2).trans c3
        obtain ⟨hlt0', hrows⟩ := F.rowsAt (by omega)
        have r1 := hrows k (by omega)
        have r2 := hrows (N + k) (by omega)
        simp only [rowV] at r1 r2
        obtain ⟨hg9, hg9', _⟩ := F.cells (by have := idx_lt (N := N) (M := N + N) (j := 0) (i := 0) (by omega) hN0; omega)
        obtain ⟨_, _, q3, q4, q5, q6⟩ := HK.out k hlt
        have HB := Lib.hid (HR.out.bd F.len (by omega) (fun j hj i hi => relP_bd n N k j i (fun i hi => by obtain ⟨_, _, a, b, c, _⟩ := HK.out i hi; exact ⟨a, b, c⟩) hj))
        have hi1 := idx_lt (N := N) (M := N + N) (j := k) (i := N - 1) (by omega) (by omega)
        have hi2 := idx_lt (N := N) (M := N + N) (j := N + k) (i := N - 1) (by omega) (by omega)
        have hR1 := HR.out.addS [k, kS n k] F.len (show k < N + N by omega) (by simp; omega) (relP_len _ _ _ _)
        have hR2 := hR1.addS [k, kU n k, kV n k] (by rw [addS_len]; exact F.len) (show N + k < N + N by omega) (by simp; omega) (by rw [if_neg (by omega)]; exact relP_len _ _ _ _)
        have HR2 := Lib.hid (hR2.congr fun j _ => relP_step hlt j)
        have HB2 : Hid (∀ q, 0 ≤ (addS xs (k * N) [k, kS n k]).getD q 0 ∧ (addS xs (k * N) [k, kS n k]).getD q 0 ≤ 100) := Lib.hid (hR1.bd (by rw [addS_len]; exact F.len) (by omega) (fun j hj i hi => by
          split
          · have h := addS_bd (o := 0) [k, kS n k] (relP n N k k) 3 (fun q => by
              have : relP n N k k = zer N := by unfold relP; rw [if_neg (by omega)]
              rw [this, zer_get]; omega) (by rw [relP_len]; simp; omega) i
            simp only [List.length_cons, List.length_nil] at h
            omega
          · exact relP_bd n N k j i (fun i hi => by obtain ⟨_, _, a, b, c, _⟩ := HK.out i hi; exact ⟨a, b, c⟩) hj))
        have hgne : wr.heap.size ≠ g9 := by omega
        have HADD := Lib.hid (fun (W : World) (hb : Below wr.heap.size wr W) (hx : Box W wr.heap.size [(.int .i64 ((k : Nat))), (.int .i64 ((kS n k : Nat)))]) =>
          addSymbols_is xs [k, kS n k] g9 ((N + N) * N) (k * N) N N wr.heap.size 2 w8.heap.size ((N + N) * N) 2 W F.len rfl (F.flat.own hb) hx.1 (fun q hq => by rcases (show q = 0 ∨ q = 1 by omega) with rfl | rfl; exact (hx.2 0 _ rfl).1; exact (hx.2 1 _ rfl).1) hgne (by simp; omega) (by omega) (by omega) (by omega) HB.out)
        have HADD2 := Lib.hid (fun (Wo : World) (hs : wr.heap.size ≤ Wo.heap.size) (hG : Gr Wo w8.heap.size (.slice (some ⟨g9, 0, none⟩) ((N + N) * N) ((N + N) * N)) (addS xs (k * N) [k, kS n k])) (W : World) (hb : Below Wo.heap.size Wo W) (hx : Box W Wo.heap.size [(.int .i64 ((k : Nat))), (.int .i64 ((kU n k : Nat))), (.int .i64 ((kV n k : Nat)))]) =>
          addSymbols_is (addS xs (k * N) [k, kS n k]) [k, kU n k, kV n k] g9 ((N + N) * N) ((N + k) * N) N N Wo.heap.size 3 w8.heap.size ((N + N) * N) 3 W (by rw [addS_len]; exact F.len) rfl (hG.own hb) hx.1 (fun q hq => by rcases (show q = 0 ∨ q = 1 ∨ q = 2 by omega) with rfl | rfl | rfl; exact (hx.2 0 _ rfl).1; exact (hx.2 1 _ rfl).1; exact (hx.2 2 _ rfl).1) (by omega) (by simp; omega) (by omega) (by omega) (by omega) HB2.out)
        have HF := Lib.hid F
        have hzr := T.size
        have HT := Lib.hid T
        clear hR1 hR2 HB HB2 hrows F q6 hi1 hi2 T
        generalize kS n k = s at *
        generalize kU n k = u at *
        generalize kV n k = t at *
        obtain ⟨a, ha⟩ : ∃ a, k * N = a := ⟨_, rfl⟩
        obtain ⟨b, hb⟩ : ∃ b, (N + k) * N = b := ⟨_, rfl⟩
        rw [ha] at r1 HADD HADD2 HR2
        rw [hb] at r2 HADD2 HR2
        clear ha hb
        go_wp2_with fail
        go_region_held3 (fun w' => w'.cell? ⟨h0, k, none⟩ = some (.slice (some ⟨g9, a, none⟩) N N) ∧ w'.cell? ⟨g1, k, none⟩ = some (.int .i64 ((s : Nat)))) (go_keep)
          (first
            | (go_at_call 40; refine (HADD.out _ (by repeat (first | with_reducible exact own_refl _ | with_reducible assumption | with_reducible apply own_alloc | with_reducible apply own_drewN | with_reducible apply own_drew | ((with_reducible refine own_setCell ?_ ?_ _); rotate_left; focus (first | (simp; done) | (simp; omega))) | (with_reducible (refine own_trans ?_ (by assumption))))) (by first | exact Box.new _ _ _ | exact Box.drew (Box.new _ _ _))).mono ?_; rintro e w6 ⟨⟨v6, rfl⟩, G6, hg6⟩; have hg6 : wr.grownBy w6 (some g9) := World.grownBy.trans (grown_weak (grow_below (by repeat (first | with_reducible exact own_refl _ | with_reducible assumption | with_reducible apply own_alloc | with_reducible apply own_drewN | with_reducible apply own_drew | ((with_reducible refine own_setCell ?_ ?_ _); rotate_left; focus (first | (simp; done) | (simp; omega))) | (with_reducible (refine own_trans ?_ (by assumption))))))) hg6; have d0 := (grown_cell (o := k) hg6 hlt0' (by omega)).trans r1; have d1 := (grown_cell (o := k) hg6 (show g1 < wr.heap.size by omega) (by omega)).trans c1))
        have e2 := (grown_cell (o := N + k) hg6 hlt0' (by omega)).trans r2
        have e3 := (grown_cell (o := k) hg6 (show g2 < wr.heap.size by omega) (by omega)).trans c2
        have e4 := (grown_cell (o := u) hg6 (show g2 < wr.heap.size by omega) (by omega)).trans c3
        have HA2 := Lib.hid (HADD2.out w6 hg6.size G6)
        have hz6 := hg6.size
        clear r1 r2 c1 c2 c3 d0 d1
        go_wp2_with fail
        go_region_held3 (fun w' => w'.cell? ⟨h0, N + k, none⟩ = some (.slice (some ⟨g9, b, none⟩) N N) ∧ w'.cell? ⟨g2, k, none⟩ = some (.int .i64 ((u : Nat))) ∧ w'.cell? ⟨g2, u, none⟩ = some (.int .i64 ((t : Nat)))) (go_keep)
          (first
            | (go_at_call 40; refine (HA2.out _ (by repeat (first | with_reducible exact own_refl _ | with_reducible assumption | with_reducible apply own_alloc | with_reducible apply own_drewN | with_reducible apply own_drew | ((with_reducible refine own_setCell ?_ ?_ _); rotate_left; focus (first | (simp; done) | (simp; omega))) | (with_reducible (refine own_trans ?_ (by assumption))))) (by first | exact Box.new _ _ _ | exact Box.drew (Box.new _ _ _))).mono ?_; rintro e w7 ⟨⟨v7, rfl⟩, G7, hg7⟩; have hg7 : w6.grownBy w7 (some g9) := World.grownBy.trans (grown_weak (grow_below (by repeat (first | with_reducible exact own_refl _ | with_reducible assumption | with_reducible apply own_alloc | with_reducible apply own_drewN | with_reducible apply own_drew | ((with_reducible refine own_setCell ?_ ?_ _); rotate_left; focus (first | (simp; done) | (simp; omega))) | (with_reducible (refine own_trans ?_ (by assumption))))))) hg7; have d0 := (grown_cell (o := N + k) hg7 (by omega) (by omega)).trans e2; have d1 := (grown_cell (o := k) hg7 (show g2 < w6.heap.size by omega) (by omega)).trans e3; have d2 := (grown_cell (o := u) hg7 (show g2 < w6.heap.size by omega) (by omega)).trans e4; have hg7 : wr.grownBy w7 (some g9) := World.grownBy.trans hg6 hg7))
        go_wp2
        go_roundw
        case rel => exact ⟨k + 1, _, by omega, by go_num, HF.out.put hg7 G7 (by rw [addS_len, addS_len]; exact HF.out.len), HR2, HT.out.grown hg7 hzr (fun j e => by injection e with e; omega)⟩
        case measure => simp [intOf]; omega
      · obtain rfl : k = N := by omega
        have hL := T8.size
        go_wp2
        go_ret2
        exact ⟨_, g9, xs, rfl, F.weak (by omega), HR.out.congr (fun j hj => by unfold relP; rw [if_pos (by omega)]), own_trans T8 T⟩
end Go.Proofs.YtejghidllochoaaDoor
