/- The model's numbers of cusps. -/
import Derived.Test.YtfchfakkbdfajaaDoorCuB
namespace Go.Proofs.YtfchfakkbdfajaaDoor
open Go.ChangeShapes Go.WideShapes Go.ChangeAt Go.RowKit

set_option maxRecDepth 100000 in
set_option maxHeartbeats 4000000 in
theorem l06Cusps_is (n : Int) (h1 : 1 ≤ n) (h2 : n ≤ 60) (v : Value) (L : Nat) (w : World) (hG : GrSS w L v (prs (ln n))) (N : Nat) (hN : (ln n).length = N) :
    Calls Tryd.prog 48 #[(.int .i64 n), v] w fun e w' => ∃ v', e = .returned (.tuple #[v', (.int .i64 (((cus n N).2 : Int)))]) ∧ Gr w' w.heap.size v' (cus n N).1 ∧ Below w.heap.size w w' := by
  have hpl : (prs (ln n)).length = N := by simp [prs, hN]
  have hNb : N ≤ 3600 := by rw [← hN]; exact ln_len h2
  obtain ⟨ad, cap, hv⟩ := hG.shape
  subst hv
  rw [hpl] at hG ⊢
  have HG := Lib.hid hG
  have HN := Lib.hid (And.intro hN hpl)
  have HB := Lib.hid (And.intro h1 h2)
  clear hG hN hpl
  go_enter Tryd.func48, Tryd.ntmps48
  go_wp2
  go_loopw [6, 8] (fun v i wr => ∃ k : Nat, k ≤ N ∧ i = (.int .i64 ((k : Int))) ∧ Gr wr w.heap.size v (List.replicate k (-1)) ∧ Below w.heap.size w wr) (fun _ i _ => N - (intOf i).toNat)
  case atStart => exact ⟨0, Nat.zero_le _, rfl, World.ownsRow_lit w #[] 0 (Nat.le_refl _) (by unfold maxLen; omega) rfl, by repeat (first | with_reducible exact own_refl _ | with_reducible assumption | with_reducible apply own_alloc | with_reducible apply own_drewN | with_reducible apply own_drew | ((with_reducible refine own_setCell ?_ ?_ _); rotate_left; focus (first | (simp; done) | (simp; omega))) | (with_reducible (refine own_trans ?_ (by assumption))))⟩
  case round =>
    obtain ⟨k, hk, rfl, hG, T⟩ := hrel
    have hz := T.size
    obtain ⟨c, hc⟩ : ∃ c, List.replicate k (-1 : Int) = c := ⟨_, rfl⟩
    have hcl : c.length = k := by rw [← hc]; simp
    have HC : Hid (c ++ [-1] = List.replicate (k + 1) (-1)) := Lib.hid (by rw [← hc, List.replicate_succ'])
    rw [hc] at hG
    have HE := Lib.hid hc
    clear hc
    obtain ⟨ad2, cap2, hv⟩ := hG.shape
    subst hv
    by_cases hlt : k < N
    · go_wp2_with (at_builtin; refine app64 rfl _ _ rfl w.heap.size wr (.slice ad2 c.length cap2) c (-1) rfl hG wr.heap.size rfl rfl (by omega) (by omega) ?_; intro v' w2 hG2 hb2)
      go_roundw
      case rel => exact ⟨k + 1, by omega, by go_num, by rw [← HC.out]; exact hG2, T.trans hb2⟩
      case measure => simp [intOf]; omega
    · obtain rfl : k = N := by omega
      have hN0 : 0 < k := by
        obtain ⟨K, hK, _⟩ := nrm_in HB.out.1 (show isP n 0 1 = true by simp [isP])
        have := HN.out.1
        omega
      rw [hcl] at hG ⊢
      obtain ⟨g, rfl, hg1, hg2, _⟩ := hG.cellsZ hN0
      have HCU : Hid ((cus n 0).1 = c ∧ (cus n 0).2 = 0) := Lib.hid (by rw [← HE.out]; simp [cus, HN.out.1])
      clear hlt
      go_wp2
      go_loopw [7, 9] (fun s i wr => ∃ j : Nat, j ≤ k ∧ i = (.int .i64 ((j : Int))) ∧ s = (.int .i64 (((cus n j).2 : Int))) ∧ Gr wr w.heap.size (.slice (some ⟨g, 0, none⟩) k cap2) (cus n j).1 ∧ Below w.heap.size w wr ∧ g < wr.heap.size) (fun _ i _ => k - (intOf i).toNat)
      case atStart => exact ⟨0, Nat.zero_le _, rfl, by rw [HCU.out.2]; rfl, by rw [HCU.out.1]; exact hG, T, hg2⟩
      case round =>
        obtain ⟨j, hj, rfl, rfl, hG, T, hgs⟩ := hrel
        have hcu := cus_len n j
        rw [HN.out.1] at hcu
        have HSU : Hid (cus n (j + 1) = if (cus n j).1.getD j 0 < 0 then (mrk n (cus n j).2 (k + 1) j (cus n j).1, (cus n j).2 + 1) else cus n j) := Lib.hid (by rw [cus, HN.out.1])
        obtain ⟨o, ho⟩ : ∃ o, (cus n j).1 = o := ⟨_, rfl⟩
        obtain ⟨s, hs⟩ : ∃ s, (cus n j).2 = s := ⟨_, rfl⟩
        have HO := Lib.hid (And.intro ho hs)
        rw [ho] at hG hcu HSU
        rw [hs] at hcu HSU ⊢
        clear ho hs
        obtain ⟨hol, hsl⟩ := hcu
        by_cases hlt2 : j < k
        · obtain ⟨x, hx⟩ : ∃ x, o.getD j 0 = x := ⟨_, rfl⟩
          obtain ⟨g', e', _, _, hc⟩ := hG.cellsZ hN0
          injection e' with e'
          injection e' with e'
          subst e'
          have ck := (hc j hlt2).1
          rw [hx] at ck
          clear hc
          by_cases hx0 : x < 0
          · have HSU : Hid (cus n (j + 1) = (mrk n s (k + 1) j o, s + 1)) := Lib.hid (by rw [HSU.out, hx, if_pos hx0])
            have f1 : decide (0 ≤ x) = false := decide_eq_false (by omega)
            clear hx
            go_wp2
            go_loopw [10] (fun a wr => ∃ (f m : Nat) (o2 : List Int), a = (.int .i64 ((m : Int))) ∧ m < k ∧ negs o2 < f ∧ o2.length = k ∧ Hid (mrk n s f m o2 = mrk n s (k + 1) j o) ∧ Gr wr w.heap.size (.slice (some ⟨g, 0, none⟩) k cap2) o2 ∧ Below w.heap.size w wr ∧ g < wr.heap.size) (fun _ wr => negs (rdI wr g k))
            case atStart => exact ⟨k + 1, j, o, rfl, hlt2, by have := negs_le o; omega, hol, Lib.hid rfl, hG, T, hgs⟩
            case round =>
              obtain ⟨f, m, o2, rfl, hm, hf, hol2, HM, hG2, T2, hgs2⟩ := hrel
              obtain ⟨y, hy⟩ : ∃ y, o2.getD m 0 = y := ⟨_, rfl⟩
              obtain ⟨g', e', _, _, hc⟩ := hG2.cellsZ hN0
              injection e' with e'
              injection e' with e'
              subst e'
              have HR := Lib.hid (rdI_is hol2 fun i hi => (hc i hi).1)
              obtain ⟨ck2, cf2⟩ := hc m hm
              rw [hy] at ck2
              clear hc
              by_cases hy0 : y < 0
              · obtain ⟨f, rfl⟩ : ∃ f', f = f' + 1 := ⟨f - 1, by omega⟩
                have HM2 : Hid (mrk n s f (nxT n m) (o2.set m s) = mrk n s (k + 1) j o) := Lib.hid (by rw [← HM.out, mrk_yes (by rw [hy]; exact hy0)])
                have HNG := Lib.hid (negs_set (o := o2) (j := m) (c := (s : Int)) (by omega) (by rw [hy]; exact hy0) (by omega))
                clear hy
                have hp : Gr (wr.setCell ⟨g, m, none⟩ (.int .i64 ((s : Int)))) w.heap.size (.slice (some ⟨g, 0, none⟩) k cap2) (o2.set m (s : Int)) := by
                  have h := Gr.putZ (k := m) (y := (s : Int)) (show Gr wr w.heap.size (.slice (some ⟨g, 0, none⟩) o2.length cap2) o2 by rw [hol2]; exact hG2) (by omega)
                  rw [hol2] at h
                  exact h
                have Tp : Below w.heap.size w (wr.setCell ⟨g, m, none⟩ (.int .i64 ((s : Int)))) := own_setCell T2 hg1 _
                have hgp : g < (wr.setCell ⟨g, m, none⟩ (.int .i64 ((s : Int)))).heap.size := by simpa using hgs2
                obtain ⟨vs, HV⟩ := HG.out.own Tp
                have hjx : m < (prs (ln n)).length := by rw [HN.out.2]; exact hm
                have hjl : m < (ln n).length := by rw [HN.out.1]; exact hm
                obtain ⟨gl, rfl, _, bl, hcl⟩ := HV.rowAt rfl (by omega)
                have c0 := hcl m hjx
                have hrow := HV.row hjx
                rw [prs_get hjl] at hrow
                obtain ⟨ad3, cap3, e3⟩ := hrow.shape
                rw [e3] at hrow c0
                obtain ⟨g3, rfl, _, b3, hc3⟩ := hrow.cellsZ (by simp)
                have c1 := (hc3 0 (by simp)).1
                have c2 := (hc3 1 (by simp)).1
                simp only [List.length_cons, List.length_nil, List.getD_cons_zero, List.getD_cons_succ, Nat.zero_add, Nat.reduceAdd] at c0 c1 c2
                clear hcl hc3 hrow e3
                obtain ⟨m1, m2, m3, m4, _⟩ := ln_at HB.out.1 hjl
                obtain ⟨hK, hat, hisp⟩ := nxT_at HB.out.1 hjl
                rw [HN.out.1] at hK
                have hn60 := HB.out
                generalize ((ln n).getD m (0, 0)).1 = p at *
                generalize ((ln n).getD m (0, 0)).2 = q at *
                have HA := Lib.hid (fun v L w hG => l06Number_is n p (p + q) HB.out.1 HB.out.2 (by unfold I64; omega) (by unfold I64; omega) hisp (nxT n m) (by rw [HN.out.1]; exact hK) hat v L w hG)
                have hw : IntKind.i64.wrap (p + q) = p + q := IntWalk.i64_in _ (by omega)
                clear hat hisp hjx hjl
                generalize nxT n m = K' at *
                go_wp2_with fail
                generalize wr.setCell ⟨g, m, none⟩ (.int .i64 ((s : Int))) = w5 at *
                go_region_held3 (fun w' => w'.cell? ⟨gl, m, none⟩ = some (.slice (some ⟨g3, 0, none⟩) 2 cap3) ∧ w'.cell? ⟨g3, 0, none⟩ = some (.int .i64 p) ∧ w'.cell? ⟨g3, 1, none⟩ = some (.int .i64 q)) (go_keep)
                  (first
                    | (go_at_call 34; refine (HA.out _ _ _ ⟨vs, HV.own (own_drew (own_refl _))⟩).mono ?_; rintro e w6 ⟨rfl, hb6⟩; have T6 := own_trans (own_drew Tp) hb6; have hp6 := (hp.drew).own hb6; have hg6 : g < w6.heap.size := Nat.lt_of_lt_of_le hgp hb6.size; have d0 := (hb6.cell (p := ⟨gl, m, none⟩) bl).trans c0; have d1 := (hb6.cell (p := ⟨g3, 0, none⟩) b3).trans c1; have d2 := (hb6.cell (p := ⟨g3, 1, none⟩) b3).trans c2; clear hb6))
                go_wp2
                go_roundw
                case rel => exact ⟨f, K', o2.set m (s : Int), rfl, hK, by have := HNG.out; omega, by simp [hol2], HM2, hp6, T6, hg6⟩
                case measure =>
                  obtain ⟨g', e', _, _, hc6⟩ := hp6.cellsZ hN0
                  injection e' with e'
                  injection e' with e'
                  subst e'
                  rw [rdI_is (by simp [hol2]) fun i hi => (hc6 i hi).1, HR.out]
                  exact HNG.out
              · have HM2 : Hid (o2 = mrk n s (k + 1) j o) := Lib.hid (by rw [← HM.out, mrk_no (by rw [hy]; exact hy0)])
                clear hy
                go_wp2
                go_roundw
                case rel => exact ⟨j + 1, by omega, by go_num, by rw [HSU.out]; go_num, by rw [HSU.out, ← HM2.out]; exact hG2, T2, hgs2⟩
                case measure => simp [intOf]; omega
          · have HSU : Hid (cus n (j + 1) = cus n j) := Lib.hid (by rw [HSU.out, hx, if_neg hx0])
            have f1 : decide (0 ≤ x) = true := decide_eq_true (by omega)
            clear hx
            go_wp2
            go_roundw
            case rel => exact ⟨j + 1, by omega, by go_num, by rw [HSU.out, HO.out.2], by rw [HSU.out, HO.out.1]; exact hG, T, hgs⟩
            case measure => simp [intOf]; omega
        · obtain rfl : j = k := by omega
          go_wp2
          go_ret2
          exact ⟨.slice (some ⟨g, 0, none⟩) j cap2, by rw [HO.out.2]; rfl, by rw [HO.out.1]; exact hG, T⟩
end Go.Proofs.YtfchfakkbdfajaaDoor
