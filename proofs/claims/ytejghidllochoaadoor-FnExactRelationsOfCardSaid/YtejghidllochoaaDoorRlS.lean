/- The model's RelationsOf: contract. -/
import Derived.Test.YtejghidllochoaaDoorGw
import Derived.Test.YtejghidllochoaaDoorSym
import Derived.Test.YtejghidllochoaaDoorCo
import Derived.Test.YtejghidllochoaaDoorFlt
import Derived.Test.YtejghidllochoaaDoorLvC
namespace Go.Proofs.YtejghidllochoaaDoor
open Go.ChangeShapes Go.WideShapes Go.ChangeAt Go.RowKit

theorem bmp_putZ {w : World} {L g cap N k : Nat} {xs : List Int} {y : Int} (h : Gr w L (.slice (some ⟨g, 0, none⟩) N cap) xs) (hl : xs.length = N) (hk : k < N) (hy : xs.getD k 0 + 1 = y) :
    Gr (w.setCell ⟨g, k, none⟩ (.int .i64 y)) L (.slice (some ⟨g, 0, none⟩) N cap) (bmp xs k) := by
  have := Gr.putZ (k := k) (y := y) (show Gr w L (.slice (some ⟨g, 0, none⟩) xs.length cap) xs by rw [hl]; exact h) (by omega)
  rw [hl] at this
  unfold bmp
  rw [hy]
  exact this
theorem Gr.far {w : World} {L B n cap : Nat} {xs : List Int} (h : Gr w L (.slice (some ⟨B, 0, none⟩) n cap) xs) {p : Addr} (hp : B ≠ p.block) (u : Value) : Gr (w.setCell p u) L (.slice (some ⟨B, 0, none⟩) n cap) xs :=
  World.ownsRow.kept h (setRow w p u) (.inr fun e => hp (by simpa [Value.ownBlock] using e))
theorem Gr.at {w : World} {L B n cap k : Nat} {xs : List Int} (h : Gr w L (.slice (some ⟨B, 0, none⟩) n cap) xs) (hk : k < n) : w.cell? ⟨B, k, none⟩ = some (.int .i64 (xs.getD k 0)) ∧ w.frozen? ⟨B, k, none⟩ = false := by
  obtain ⟨g, e, _, _, hc⟩ := h.cellsZ (by omega)
  injection e with e
  injection e with e
  subst e
  exact hc k hk
theorem zer_le (N : Nat) : ∀ q, 0 ≤ (zer N).getD q 0 ∧ (zer N).getD q 0 ≤ 0 := fun q => by rw [zer_get]; omega
theorem bmp_bd {l : List Int} {B : Int} (h : ∀ q, 0 ≤ l.getD q 0 ∧ l.getD q 0 ≤ B) (i : Nat) : ∀ q, 0 ≤ (bmp l i).getD q 0 ∧ (bmp l i).getD q 0 ≤ B + 1 := fun q => by
  have hq := h q
  by_cases hi : i < l.length
  · rw [bmp_get hi]
    split <;> omega
  · have e : bmp l i = l := by unfold bmp; exact List.set_eq_of_length_le (by omega)
    rw [e]
    omega
theorem cell1 (w : World) (v : Value) (t : TypeId) : ∀ j u, [v][j]? = some u → (w.alloc (.cells #[v] t)).cell? ⟨w.heap.size, j, none⟩ = some u := fun j u hj => (Box.new w [v] t).2 j u hj |>.1
theorem one1 {a : Option Addr} {n c : Nat} : ∀ u ∈ [Value.slice a n c], u.oneCell' = true := fun u hu => by
  simp at hu
  subst hu
  rfl
def relSs (n : Int) (N k : Nat) : List (List Int) := (List.range k).map (relS n N)
def relUs (n : Int) (N k : Nat) : List (List Int) := (List.range k).map (relU n N)
theorem relSs_len (n : Int) (N k : Nat) : (relSs n N k).length = k := by simp [relSs]
theorem relUs_len (n : Int) (N k : Nat) : (relUs n N k).length = k := by simp [relUs]
theorem relSs_snoc (n : Int) (N k : Nat) : relSs n N (k + 1) = relSs n N k ++ [relS n N k] := by simp [relSs, List.range_succ]
theorem relUs_snoc (n : Int) (N k : Nat) : relUs n N (k + 1) = relUs n N k ++ [relU n N k] := by simp [relUs, List.range_succ]
theorem rels_at (n : Int) (N j : Nat) (hj : j < N + N) : (relSs n N N ++ relUs n N N).getD j [] = rel n N j := by
  unfold rel
  by_cases h : j < N
  · rw [if_pos h]
    rw [List.getD, List.getElem?_append_left (show j < (relSs n N N).length by rw [relSs_len]; exact h)]
    simp [relSs, h]
  · rw [if_neg h]
    rw [List.getD, List.getElem?_append_right (show (relSs n N N).length ≤ j by rw [relSs_len]; omega), relSs_len]
    simp [relUs, show j - N < N by omega]
theorem relS_eq (n : Int) (N k : Nat) : relS n N k = bmp (bmp (zer N) k) (kS n k) := by simp [relS, addS]
theorem relU_eq (n : Int) (N k : Nat) : relU n N k = bmp (bmp (bmp (zer N) k) (kU n k)) (kV n k) := by simp [relU, addS]

set_option maxRecDepth 100000 in
set_option maxHeartbeats 4000000 in
theorem l08Relations_is (n : Int) (h1 : 1 ≤ n) (h2 : n ≤ 60) (N : Nat) (hN : (ln n).length = N) (hN72 : N ≤ 72) (hN0 : 0 < N) (v : Value) (L : Nat) (w : World) (hG : GrSS w L v (prs (ln n))) :
    Calls Tryd.prog 33 #[(.int .i64 n), v] w fun e w' => ∃ v' vs, e = .returned v' ∧ GrW w' w.heap.size v' vs (relSs n N N ++ relUs n N N) ∧ Below w.heap.size w w' := by
  have hpl : (prs (ln n)).length = N := by simp [prs, hN]
  obtain ⟨ad, cap, hv⟩ := hG.shape
  subst hv
  rw [hpl] at hG ⊢
  have HG := Lib.hid hG
  have HN := Lib.hid (And.intro hN hpl)
  have HB := Lib.hid (And.intro h1 h2)
  have hmk := made64 N (by omega)
  clear hG hN hpl
  go_enter Tryd.func33, Tryd.ntmps33
  go_wp2
  have A0 : GrW ((w.alloc (.cells #[] 31)).alloc (.cells #[] 31)) w.heap.size (.slice (some ⟨w.heap.size, 0, none⟩) 0 0) [] [] := GrW.own (GrW.lit rfl (Nat.le_refl _)) (own_alloc (own_refl _) _)
  have A1 : GrW ((w.alloc (.cells #[] 31)).alloc (.cells #[] 31)) w.heap.size (.slice (some ⟨w.heap.size + 1, 0, none⟩) 0 0) [] [] := GrW.lit (by simp) (by omega)
  go_loopw [5, 6, 7] (fun x y i wr => ∃ (k : Nat) (vs us : List Value), k ≤ N ∧ i = (.int .i64 ((k : Int))) ∧ GrW wr w.heap.size x vs (relSs n N k) ∧ GrW wr w.heap.size y us (relUs n N k) ∧ (∀ g, x.ownBlock = some g → y.ownBlock ≠ some g) ∧ Below w.heap.size w wr) (fun _ _ i _ => N - (intOf i).toNat)
  case atStart => exact ⟨0, [], [], Nat.zero_le _, rfl, A0, A1, by simp [Value.ownBlock], by repeat (first | with_reducible exact own_refl _ | with_reducible assumption | with_reducible apply own_alloc | with_reducible apply own_drewN | with_reducible apply own_drew | ((with_reducible refine own_setCell ?_ ?_ _); rotate_left; focus (first | (simp; done) | (simp; omega))) | (with_reducible (refine own_trans ?_ (by assumption))))⟩
  case round =>
    obtain ⟨k, vs, us, hk, rfl, hx, hy, hxy, T⟩ := hrel
    by_cases hlt : k < N
    · have HV := HG.out.own T
      obtain ⟨vs0, HV⟩ := HV
      have hjx : k < (prs (ln n)).length := by rw [HN.out.2]; exact hlt
      have hjl : k < (ln n).length := by rw [HN.out.1]; exact hlt
      obtain ⟨gl, rfl, _, bl, hcl⟩ := HV.rowAt rfl (by omega)
      have c0 := hcl k hjx
      have hrow := HV.row hjx
      rw [prs_getX hjl] at hrow
      obtain ⟨ad3, cap3, e3⟩ := hrow.shape
      rw [e3] at hrow c0
      obtain ⟨g3, rfl, _, b3, hc3⟩ := hrow.cellsZ (by simp)
      have c1 := (hc3 0 (by simp)).1
      have c2 := (hc3 1 (by simp)).1
      simp only [List.length_cons, List.length_nil, List.getD_cons_zero, List.getD_cons_succ, Nat.zero_add, Nat.reduceAdd] at c0 c1 c2
      clear hcl hc3 hrow e3
      obtain ⟨m1, m2, m3, m4, _⟩ := ln_at HB.out.1 hjl
      obtain ⟨p1, p2⟩ := kOf_spec HB.out.1 (isP_S (ln_isP HB.out.1 hjl))
      obtain ⟨q1, q2⟩ := kOf_spec HB.out.1 (isP_U (ln_isP HB.out.1 hjl))
      obtain ⟨r1, r2⟩ := kOf_spec HB.out.1 (isP_neg (ln_isP HB.out.1 hjl))
      have hp1 := isP_S (ln_isP HB.out.1 hjl)
      have hp2 := isP_U (ln_isP HB.out.1 hjl)
      have hp3 := isP_neg (ln_isP HB.out.1 hjl)
      have HRS := Lib.hid (relS_eq n N k)
      have HRU := Lib.hid (relU_eq n N k)
      unfold kS at HRS
      unfold kU kV at HRU
      rw [HN.out.1] at p1 q1 r1
      generalize ((ln n).getD k (0, 0)).1 = p at *
      generalize ((ln n).getD k (0, 0)).2 = q at *
      have hn60 := HB.out
      have HA1 := Lib.hid (fun v L w hG => l06Number_is n q (-p) HB.out.1 HB.out.2 (by unfold I64; omega) (by unfold I64; omega) hp1 _ (by rw [HN.out.1]; exact p1) p2 v L w hG)
      have HA2 := Lib.hid (fun v L w hG => l06Number_is n (p + q) (-p) HB.out.1 HB.out.2 (by unfold I64; omega) (by unfold I64; omega) hp2 _ (by rw [HN.out.1]; exact q1) q2 v L w hG)
      have HA3 := Lib.hid (fun v L w hG => l06Number_is n q (-p - q) HB.out.1 HB.out.2 (by unfold I64; omega) (by unfold I64; omega) hp3 _ (by rw [HN.out.1]; exact r1) r2 v L w hG)
      have hw1 : IntKind.i64.wrap (p + q) = p + q := IntWalk.i64_in _ (by omega)
      have hw2 : IntKind.i64.wrap (-p) = -p := IntWalk.i64_in _ (by omega)
      have hw3 : IntKind.i64.wrap (-p - q) = -p - q := IntWalk.i64_in _ (by omega)
      generalize kOf n q (-p) = a at *
      generalize kOf n (p + q) (-p) = b at *
      generalize kOf n q (-p - q) = c at *
      obtain ⟨adx, cpx, hvx⟩ := hx.shape
      obtain ⟨ady, cpy, hvy⟩ := hy.shape
      rw [relSs_len] at hvx
      rw [relUs_len] at hvy
      subst hvx hvy
      have HX := Lib.hid hx
      have HY := Lib.hid hy
      have HXY := Lib.hid hxy
      clear p2 q2 r2 hp1 hp2 hp3 hjx hjl hx hy hxy
      go_upto_region 6 with fail
      go_quiet (fail)
      have Tn : Below w.heap.size w (wr.drewN nq) := below_drewN' T nq
      have HXn : Hid (GrW (wr.drewN nq) w.heap.size (.slice adx k cpx) vs (relSs n N k)) := Lib.hid (HX.out.own (below_drewN' (own_refl wr) nq))
      have HYn : Hid (GrW (wr.drewN nq) w.heap.size (.slice ady k cpy) us (relUs n N k)) := Lib.hid (HY.out.own (below_drewN' (own_refl wr) nq))
      have hzn := Tn.size
      clear HX HY T c0 c1 c2
      generalize wr.drewN nq = wo at *
      go_upto_region 7 with fail
      go_region
      · have T0 : Below wo.heap.size wo ((wo.alloc (.cells (Array.replicate N (.int .i64 0)) 2)).alloc (.cells (Array.replicate N (.int .i64 0)) 2)).drew := own_drew (own_alloc (own_alloc (own_refl _) _) _)
        have GS : Gr ((wo.alloc (.cells (Array.replicate N (.int .i64 0)) 2)).alloc (.cells (Array.replicate N (.int .i64 0)) 2)).drew wo.heap.size (.slice (some ⟨wo.heap.size, 0, none⟩) N N) (zer N) := Gr.drew (Gr.alloc (Gr.zer rfl (Nat.le_refl _) N (by omega)) _)
        have GT : Gr ((wo.alloc (.cells (Array.replicate N (.int .i64 0)) 2)).alloc (.cells (Array.replicate N (.int .i64 0)) 2)).drew wo.heap.size (.slice (some ⟨wo.heap.size + 1, 0, none⟩) N N) (zer N) := Gr.drew (Gr.zer (by simp) (by omega) N (by omega))
        generalize ((wo.alloc (.cells (Array.replicate N (.int .i64 0)) 2)).alloc (.cells (Array.replicate N (.int .i64 0)) 2)).drew = W0 at *
        obtain ⟨A, hA⟩ : ∃ A, wo.heap.size = A := ⟨_, rfl⟩
        obtain ⟨B, hB⟩ : ∃ B, wo.heap.size + 1 = B := ⟨_, rfl⟩
        have hAB : A ≠ B := by omega
        have hAl : wo.heap.size ≤ A := by omega
        have hBl : wo.heap.size ≤ B := by omega
        have GA : Gr W0 wo.heap.size (.slice (some ⟨A, 0, none⟩) N N) (zer N) := by rw [← hA]; exact GS
        have GB : Gr W0 wo.heap.size (.slice (some ⟨B, 0, none⟩) N N) (zer N) := by rw [← hB]; exact GT
        rw [hB, hA]
        clear hA hB GS GT
        obtain ⟨cA, fA⟩ := GA.at hlt
        rw [zer_get] at cA
        have G1 := bmp_putZ GA (by simp [zer]) hlt (y := 1) (by rw [zer_get]; rfl)
        have H1 := GB.far (p := ⟨A, k, none⟩) (Ne.symm hAB) (.int .i64 1)
        have T1 : Below wo.heap.size wo (W0.setCell ⟨A, k, none⟩ (.int .i64 1)) := own_setCell T0 hAl _
        clear GA GB
        go_wp2_with fail
        generalize W0.setCell ⟨A, k, none⟩ (.int .i64 1) = W1 at *
        refine (HA1.out _ _ _ (HG.out.own (own_trans Tn T1))).mono ?_
        rintro e W2 ⟨rfl, hb2⟩
        have T2 := own_trans T1 hb2
        have G2 := G1.own hb2
        have H2 := H1.own hb2
        obtain ⟨c2, f2⟩ := G2.at p1
        have x2 := bmp_bd (zer_le N) k a
        obtain ⟨x, hx⟩ : ∃ x, (bmp (zer N) k).getD a 0 = x := ⟨_, rfl⟩
        rw [hx] at c2 x2
        obtain ⟨_, _⟩ := x2
        have hwx : IntKind.i64.wrap (x + 1) = x + 1 := IntWalk.i64_in _ (by omega)
        have G3 := bmp_putZ G2 (by simp [bmp_len, zer]) p1 (y := x + 1) (by rw [hx])
        have H3 := H2.far (p := ⟨A, a, none⟩) (Ne.symm hAB) (.int .i64 (x + 1))
        have T3 : Below wo.heap.size wo (W2.setCell ⟨A, a, none⟩ (.int .i64 (x + 1))) := own_setCell T2 hAl _
        rw [← HRS.out] at G3
        clear T1 hb2 G1 H1 cA fA T0 G2 H2
        go_upto_region 9 with fail
        clear c2 f2 hwx hx
        generalize W2.setCell ⟨A, a, none⟩ (.int .i64 (x + 1)) = W3 at *
        obtain ⟨c3, f3⟩ := H3.at hlt
        rw [zer_get] at c3
        have H4 := bmp_putZ H3 (by simp [zer]) hlt (y := 1) (by rw [zer_get]; rfl)
        have G4 := G3.far (p := ⟨B, k, none⟩) hAB (.int .i64 1)
        have T4 : Below wo.heap.size wo (W3.setCell ⟨B, k, none⟩ (.int .i64 1)) := own_setCell T3 hBl _
        clear G3 H3
        go_wp2_with fail
        generalize W3.setCell ⟨B, k, none⟩ (.int .i64 1) = W4 at *
        refine (HA2.out _ _ _ (HG.out.own (own_trans Tn T4))).mono ?_
        rintro e W5 ⟨rfl, hb5⟩
        have T5 := own_trans T4 hb5
        have G5 := G4.own hb5
        have H5 := H4.own hb5
        obtain ⟨c5, f5⟩ := H5.at q1
        have x5 := bmp_bd (zer_le N) k b
        obtain ⟨y, hy⟩ : ∃ y, (bmp (zer N) k).getD b 0 = y := ⟨_, rfl⟩
        rw [hy] at c5 x5
        obtain ⟨_, _⟩ := x5
        have hwy : IntKind.i64.wrap (y + 1) = y + 1 := IntWalk.i64_in _ (by omega)
        have H6 := bmp_putZ H5 (by simp [bmp_len, zer]) q1 (y := y + 1) (by rw [hy])
        have G6 := G5.far (p := ⟨B, b, none⟩) hAB (.int .i64 (y + 1))
        have T6 : Below wo.heap.size wo (W5.setCell ⟨B, b, none⟩ (.int .i64 (y + 1))) := own_setCell T5 hBl _
        clear T3 T4 hb5 G4 H4 c3 f3 G5 H5
        go_upto_region 11 with fail
        clear c5 f5 hwy hy
        generalize W5.setCell ⟨B, b, none⟩ (.int .i64 (y + 1)) = W6 at *
        go_wp2_with fail
        refine (HA3.out _ _ _ (HG.out.own (own_trans Tn T6))).mono ?_
        rintro e W7 ⟨rfl, hb7⟩
        have T7 := own_trans T6 hb7
        have G7 := G6.own hb7
        have H7 := H6.own hb7
        obtain ⟨c7, f7⟩ := H7.at r1
        have x7 := bmp_bd (bmp_bd (zer_le N) k) b c
        obtain ⟨z, hz⟩ : ∃ z, (bmp (bmp (zer N) k) b).getD c 0 = z := ⟨_, rfl⟩
        rw [hz] at c7 x7
        obtain ⟨_, _⟩ := x7
        have hwz : IntKind.i64.wrap (z + 1) = z + 1 := IntWalk.i64_in _ (by omega)
        have H8 := bmp_putZ H7 (by simp [bmp_len, zer]) r1 (y := z + 1) (by rw [hz])
        have G8 := G7.far (p := ⟨B, c, none⟩) hAB (.int .i64 (z + 1))
        have T8 : Below wo.heap.size wo (W7.setCell ⟨B, c, none⟩ (.int .i64 (z + 1))) := own_setCell T7 hBl _
        rw [← HRU.out] at H8
        clear T6 hb7 G6 H6 G7 H7
        go_upto_region 12 with fail
        clear c7 f7 hwz hz
        generalize W7.setCell ⟨B, c, none⟩ (.int .i64 (z + 1)) = W8 at *
        have X8 := HXn.out.own T8
        have Y8 := HYn.out.own T8
        have hz8 := T8.size
        have hvl : vs.length = k := by rw [X8.2.1, relSs_len]
        have hul : us.length = k := by rw [Y8.2.1, relUs_len]
        have X8a := X8.own (own_alloc (own_refl W8) (.cells #[.slice (some ⟨A, 0, none⟩) N N] 31))
        have Y8a := Y8.own (own_alloc (own_refl W8) (.cells #[.slice (some ⟨A, 0, none⟩) N N] 31))
        have H8a := H8.alloc (.cells #[.slice (some ⟨A, 0, none⟩) N N] 31)
        have G8a := ownsRow_weakZ (G8.alloc (.cells #[.slice (some ⟨A, 0, none⟩) N N] 31)) hzn
        have X8r := X8a.1
        rw [hvl] at X8r
        go_upto_region 13 with (at_builtin; refine appRowAt (L := w.heap.size) (v := .slice adx k cpx) (n := k) (vs := vs) (us := [.slice (some ⟨A, 0, none⟩) N N]) (m := 1) (c := 1) (g := W8.heap.size) (by rfl) _ _ (by rfl) _ (by rfl) X8r (by rfl) rfl (cell1 _ _ _) one1 (by omega) (by simp; omega) ?_; intro v9 w9 hR9 hg9 hat9 hb9)
        have X9 : GrW w9 w.heap.size v9 (vs ++ [.slice (some ⟨A, 0, none⟩) N N]) (relSs n N (k + 1)) := by
          rw [relSs_snoc]
          exact X8a.snoc G8a (by rw [hvl]; exact hR9) hg9
        have Y9 := Y8a.other X8r (fun g h1 h2 => HXY.out g h2 h1) hg9
        have H9 := kept_apart (Ne.symm types_ss) H8a X8r hg9
        have hne9 : ∀ g, v9.ownBlock = some g → (Value.slice ady k cpy).ownBlock ≠ some g := fun g h1 h2 => by
          have h3 := (Y8a.1.lt g h2).2
          rcases hat9 with e | e
          · rw [e] at h1; exact HXY.out g h1 h2
          · rw [e] at h1; injection h1 with h1; omega
        have T9 : Below w.heap.size w w9 := (own_trans Tn (own_alloc T8 (.cells #[.slice (some ⟨A, 0, none⟩) N N] 31))).trans hb9
        clear X8 Y8 H8 G8 X8a Y8a H8a G8a X8r hR9 hg9 hat9 hb9 T8 hz8
        have hz9 := T9.size
        have X9a := X9.own (own_alloc (own_refl w9) (.cells #[.slice (some ⟨B, 0, none⟩) N N] 31))
        have Y9a := Y9.own (own_alloc (own_refl w9) (.cells #[.slice (some ⟨B, 0, none⟩) N N] 31))
        have H9a := ownsRow_weakZ (H9.alloc (.cells #[.slice (some ⟨B, 0, none⟩) N N] 31)) hzn
        have Y9r := Y9a.1
        rw [hul] at Y9r
        go_wp2_with (at_builtin; refine appRowAt (L := w.heap.size) (v := .slice ady k cpy) (n := k) (vs := us) (us := [.slice (some ⟨B, 0, none⟩) N N]) (m := 1) (c := 1) (g := w9.heap.size) (by rfl) _ _ (by rfl) _ (by rfl) Y9r (by rfl) rfl (cell1 _ _ _) one1 (by omega) (by simp; omega) ?_; intro v10 w10 hR10 hg10 hat10 hb10)
        have Y10 : GrW w10 w.heap.size v10 (us ++ [.slice (some ⟨B, 0, none⟩) N N]) (relUs n N (k + 1)) := by
          rw [relUs_snoc]
          exact Y9a.snoc H9a (by rw [hul]; exact hR10) hg10
        have X10 := X9a.other Y9r hne9 hg10
        have hne10 : ∀ g, v9.ownBlock = some g → v10.ownBlock ≠ some g := fun g h1 h2 => by
          have h3 := (X9a.1.lt g h1).2
          rcases hat10 with e | e
          · rw [e] at h2; exact hne9 g h1 h2
          · rw [e] at h2; injection h2 with h2; omega
        have T10 : Below w.heap.size w w10 := (own_alloc T9 (.cells #[.slice (some ⟨B, 0, none⟩) N N] 31)).trans hb10
        go_roundw
        case rel => exact ⟨k + 1, _, _, by omega, by go_num, X10, Y10, hne10, T10⟩
        case measure => simp [intOf]; omega
      · have T0 : Below wo.heap.size wo ((wo.alloc (.cells (Array.replicate N (.int .i64 0)) 2)).alloc (.cells (Array.replicate N (.int .i64 0)) 2)).drew := own_drew (own_alloc (own_alloc (own_refl _) _) _)
        have GS : Gr ((wo.alloc (.cells (Array.replicate N (.int .i64 0)) 2)).alloc (.cells (Array.replicate N (.int .i64 0)) 2)).drew wo.heap.size (.slice (some ⟨wo.heap.size, 0, none⟩) N N) (zer N) := Gr.drew (Gr.alloc (Gr.zer rfl (Nat.le_refl _) N (by omega)) _)
        have GT : Gr ((wo.alloc (.cells (Array.replicate N (.int .i64 0)) 2)).alloc (.cells (Array.replicate N (.int .i64 0)) 2)).drew wo.heap.size (.slice (some ⟨wo.heap.size + 1, 0, none⟩) N N) (zer N) := Gr.drew (Gr.zer (by simp) (by omega) N (by omega))
        generalize ((wo.alloc (.cells (Array.replicate N (.int .i64 0)) 2)).alloc (.cells (Array.replicate N (.int .i64 0)) 2)).drew = W0 at *
        obtain ⟨A, hA⟩ : ∃ A, wo.heap.size + 1 = A := ⟨_, rfl⟩
        obtain ⟨B, hB⟩ : ∃ B, wo.heap.size = B := ⟨_, rfl⟩
        have hAB : A ≠ B := by omega
        have hAl : wo.heap.size ≤ A := by omega
        have hBl : wo.heap.size ≤ B := by omega
        have GA : Gr W0 wo.heap.size (.slice (some ⟨A, 0, none⟩) N N) (zer N) := by rw [← hA]; exact GT
        have GB : Gr W0 wo.heap.size (.slice (some ⟨B, 0, none⟩) N N) (zer N) := by rw [← hB]; exact GS
        rw [hA, hB]
        clear hA hB GS GT
        obtain ⟨cA, fA⟩ := GA.at hlt
        rw [zer_get] at cA
        have G1 := bmp_putZ GA (by simp [zer]) hlt (y := 1) (by rw [zer_get]; rfl)
        have H1 := GB.far (p := ⟨A, k, none⟩) (Ne.symm hAB) (.int .i64 1)
        have T1 : Below wo.heap.size wo (W0.setCell ⟨A, k, none⟩ (.int .i64 1)) := own_setCell T0 hAl _
        clear GA GB
        go_wp2_with fail
        generalize W0.setCell ⟨A, k, none⟩ (.int .i64 1) = W1 at *
        refine (HA1.out _ _ _ (HG.out.own (own_trans Tn T1))).mono ?_
        rintro e W2 ⟨rfl, hb2⟩
        have T2 := own_trans T1 hb2
        have G2 := G1.own hb2
        have H2 := H1.own hb2
        obtain ⟨c2, f2⟩ := G2.at p1
        have x2 := bmp_bd (zer_le N) k a
        obtain ⟨x, hx⟩ : ∃ x, (bmp (zer N) k).getD a 0 = x := ⟨_, rfl⟩
        rw [hx] at c2 x2
        obtain ⟨_, _⟩ := x2
        have hwx : IntKind.i64.wrap (x + 1) = x + 1 := IntWalk.i64_in _ (by omega)
        have G3 := bmp_putZ G2 (by simp [bmp_len, zer]) p1 (y := x + 1) (by rw [hx])
        have H3 := H2.far (p := ⟨A, a, none⟩) (Ne.symm hAB) (.int .i64 (x + 1))
        have T3 : Below wo.heap.size wo (W2.setCell ⟨A, a, none⟩ (.int .i64 (x + 1))) := own_setCell T2 hAl _
        rw [← HRS.out] at G3
        clear T1 hb2 G1 H1 cA fA T0 G2 H2
        go_upto_region 9 with fail
        clear c2 f2 hwx hx
        generalize W2.setCell ⟨A, a, none⟩ (.int .i64 (x + 1)) = W3 at *
        obtain ⟨c3, f3⟩ := H3.at hlt
        rw [zer_get] at c3
        have H4 := bmp_putZ H3 (by simp [zer]) hlt (y := 1) (by rw [zer_get]; rfl)
        have G4 := G3.far (p := ⟨B, k, none⟩) hAB (.int .i64 1)
        have T4 : Below wo.heap.size wo (W3.setCell ⟨B, k, none⟩ (.int .i64 1)) := own_setCell T3 hBl _
        clear G3 H3
        go_wp2_with fail
        generalize W3.setCell ⟨B, k, none⟩ (.int .i64 1) = W4 at *
        refine (HA2.out _ _ _ (HG.out.own (own_trans Tn T4))).mono ?_
        rintro e W5 ⟨rfl, hb5⟩
        have T5 := own_trans T4 hb5
        have G5 := G4.own hb5
        have H5 := H4.own hb5
        obtain ⟨c5, f5⟩ := H5.at q1
        have x5 := bmp_bd (zer_le N) k b
        obtain ⟨y, hy⟩ : ∃ y, (bmp (zer N) k).getD b 0 = y := ⟨_, rfl⟩
        rw [hy] at c5 x5
        obtain ⟨_, _⟩ := x5
        have hwy : IntKind.i64.wrap (y + 1) = y + 1 := IntWalk.i64_in _ (by omega)
        have H6 := bmp_putZ H5 (by simp [bmp_len, zer]) q1 (y := y + 1) (by rw [hy])
        have G6 := G5.far (p := ⟨B, b, none⟩) hAB (.int .i64 (y + 1))
        have T6 : Below wo.heap.size wo (W5.setCell ⟨B, b, none⟩ (.int .i64 (y + 1))) := own_setCell T5 hBl _
        clear T3 T4 hb5 G4 H4 c3 f3 G5 H5
        go_upto_region 11 with fail
        clear c5 f5 hwy hy
        generalize W5.setCell ⟨B, b, none⟩ (.int .i64 (y + 1)) = W6 at *
        go_wp2_with fail
        refine (HA3.out _ _ _ (HG.out.own (own_trans Tn T6))).mono ?_
        rintro e W7 ⟨rfl, hb7⟩
        have T7 := own_trans T6 hb7
        have G7 := G6.own hb7
        have H7 := H6.own hb7
        obtain ⟨c7, f7⟩ := H7.at r1
        have x7 := bmp_bd (bmp_bd (zer_le N) k) b c
        obtain ⟨z, hz⟩ : ∃ z, (bmp (bmp (zer N) k) b).getD c 0 = z := ⟨_, rfl⟩
        rw [hz] at c7 x7
        obtain ⟨_, _⟩ := x7
        have hwz : IntKind.i64.wrap (z + 1) = z + 1 := IntWalk.i64_in _ (by omega)
        have H8 := bmp_putZ H7 (by simp [bmp_len, zer]) r1 (y := z + 1) (by rw [hz])
        have G8 := G7.far (p := ⟨B, c, none⟩) hAB (.int .i64 (z + 1))
        have T8 : Below wo.heap.size wo (W7.setCell ⟨B, c, none⟩ (.int .i64 (z + 1))) := own_setCell T7 hBl _
        rw [← HRU.out] at H8
        clear T6 hb7 G6 H6 G7 H7
        go_upto_region 12 with fail
        clear c7 f7 hwz hz
        generalize W7.setCell ⟨B, c, none⟩ (.int .i64 (z + 1)) = W8 at *
        have X8 := HXn.out.own T8
        have Y8 := HYn.out.own T8
        have hz8 := T8.size
        have hvl : vs.length = k := by rw [X8.2.1, relSs_len]
        have hul : us.length = k := by rw [Y8.2.1, relUs_len]
        have X8a := X8.own (own_alloc (own_refl W8) (.cells #[.slice (some ⟨A, 0, none⟩) N N] 31))
        have Y8a := Y8.own (own_alloc (own_refl W8) (.cells #[.slice (some ⟨A, 0, none⟩) N N] 31))
        have H8a := H8.alloc (.cells #[.slice (some ⟨A, 0, none⟩) N N] 31)
        have G8a := ownsRow_weakZ (G8.alloc (.cells #[.slice (some ⟨A, 0, none⟩) N N] 31)) hzn
        have X8r := X8a.1
        rw [hvl] at X8r
        go_upto_region 13 with (at_builtin; refine appRowAt (L := w.heap.size) (v := .slice adx k cpx) (n := k) (vs := vs) (us := [.slice (some ⟨A, 0, none⟩) N N]) (m := 1) (c := 1) (g := W8.heap.size) (by rfl) _ _ (by rfl) _ (by rfl) X8r (by rfl) rfl (cell1 _ _ _) one1 (by omega) (by simp; omega) ?_; intro v9 w9 hR9 hg9 hat9 hb9)
        have X9 : GrW w9 w.heap.size v9 (vs ++ [.slice (some ⟨A, 0, none⟩) N N]) (relSs n N (k + 1)) := by
          rw [relSs_snoc]
          exact X8a.snoc G8a (by rw [hvl]; exact hR9) hg9
        have Y9 := Y8a.other X8r (fun g h1 h2 => HXY.out g h2 h1) hg9
        have H9 := kept_apart (Ne.symm types_ss) H8a X8r hg9
        have hne9 : ∀ g, v9.ownBlock = some g → (Value.slice ady k cpy).ownBlock ≠ some g := fun g h1 h2 => by
          have h3 := (Y8a.1.lt g h2).2
          rcases hat9 with e | e
          · rw [e] at h1; exact HXY.out g h1 h2
          · rw [e] at h1; injection h1 with h1; omega
        have T9 : Below w.heap.size w w9 := (own_trans Tn (own_alloc T8 (.cells #[.slice (some ⟨A, 0, none⟩) N N] 31))).trans hb9
        clear X8 Y8 H8 G8 X8a Y8a H8a G8a X8r hR9 hg9 hat9 hb9 T8 hz8
        have hz9 := T9.size
        have X9a := X9.own (own_alloc (own_refl w9) (.cells #[.slice (some ⟨B, 0, none⟩) N N] 31))
        have Y9a := Y9.own (own_alloc (own_refl w9) (.cells #[.slice (some ⟨B, 0, none⟩) N N] 31))
        have H9a := ownsRow_weakZ (H9.alloc (.cells #[.slice (some ⟨B, 0, none⟩) N N] 31)) hzn
        have Y9r := Y9a.1
        rw [hul] at Y9r
        go_wp2_with (at_builtin; refine appRowAt (L := w.heap.size) (v := .slice ady k cpy) (n := k) (vs := us) (us := [.slice (some ⟨B, 0, none⟩) N N]) (m := 1) (c := 1) (g := w9.heap.size) (by rfl) _ _ (by rfl) _ (by rfl) Y9r (by rfl) rfl (cell1 _ _ _) one1 (by omega) (by simp; omega) ?_; intro v10 w10 hR10 hg10 hat10 hb10)
        have Y10 : GrW w10 w.heap.size v10 (us ++ [.slice (some ⟨B, 0, none⟩) N N]) (relUs n N (k + 1)) := by
          rw [relUs_snoc]
          exact Y9a.snoc H9a (by rw [hul]; exact hR10) hg10
        have X10 := X9a.other Y9r hne9 hg10
        have hne10 : ∀ g, v9.ownBlock = some g → v10.ownBlock ≠ some g := fun g h1 h2 => by
          have h3 := (X9a.1.lt g h1).2
          rcases hat10 with e | e
          · rw [e] at h2; exact hne9 g h1 h2
          · rw [e] at h2; injection h2 with h2; omega
        have T10 : Below w.heap.size w w10 := (own_alloc T9 (.cells #[.slice (some ⟨B, 0, none⟩) N N] 31)).trans hb10
        go_roundw
        case rel => exact ⟨k + 1, _, _, by omega, by go_num, X10, Y10, hne10, T10⟩
        case measure => simp [intOf]; omega
    · obtain rfl : k = N := by omega
      obtain ⟨adx, cpx, hvx⟩ := hx.shape
      obtain ⟨ady, cpy, hvy⟩ := hy.shape
      rw [relSs_len] at hvx
      rw [relUs_len] at hvy
      subst hvx hvy
      have hvl : vs.length = k := by rw [hx.2.1, relSs_len]
      have hul : us.length = k := by rw [hy.2.1, relUs_len]
      obtain ⟨gy, rfl, _, hcy⟩ := hy.cells hN0
      have hxr := hx.1
      rw [hvl] at hxr
      have hone := hy.oneC
      have hz := T.size
      go_wp2_with (at_builtin; refine appRowAt (L := w.heap.size) (v := .slice adx k cpx) (n := k) (vs := vs) (us := us) (m := k) (c := cpy) (g := gy) (by rfl) _ _ (by rfl) _ (by rfl) hxr (by rfl) hul hcy hone (by omega) hz ?_; intro v9 w9 hR9 hg9 _ hb9)
      go_ret
      exact ⟨v9, vs ++ us, rfl, hx.join hy (by rw [hvl, hul]; exact hR9) hg9, T.trans hb9⟩
end Go.Proofs.YtejghidllochoaaDoor
