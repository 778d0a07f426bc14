/- CosetOf: contracts of both sides. -/
import Derived.Test.YtdcomnnpnhinfaaDoorNbs
import Derived.Test.YtdcomnnpnhinfaaDoorMS
import Derived.Test.YtdcomnnpnhinfaaDoorLnS
namespace Go.Proofs.YtdcomnnpnhinfaaDoor
open Go.ChangeShapes Go.WideShapes Go.ChangeAt Go.RowKit

theorem prs_getX {l : List (Int × Int)} {k : Nat} (h : k < l.length) : (prs l).getD k [] = [(l.getD k (0, 0)).1, (l.getD k (0, 0)).2] := by
  simp [prs, List.getD, List.getElem?_map, List.getElem?_eq_getElem h]
theorem nodup_ne {l : List (Int × Int)} (h : l.Nodup) {i j : Nat} (hij : i < j) (hj : j < l.length) : l.getD i (0, 0) ≠ l.getD j (0, 0) := by
  have := List.pairwise_iff_getElem.1 h i j (by omega) hj hij
  simpa [List.getD, List.getElem?_eq_getElem (show i < l.length by omega), List.getElem?_eq_getElem hj] using this
theorem isM_isP {a b c d n : Int} (h : isM a b c d = true) : isP n c d = true := by
  obtain ⟨_, _, _, _, hd⟩ := isM_ent h
  have h1 : (Int.gcd c d : Int) ∣ 1 := by
    rw [← hd]
    exact Int.dvd_sub (Int.dvd_trans (Int.gcd_dvd_right c d) (Int.dvd_mul_left _ _)) (Int.dvd_trans (Int.gcd_dvd_left c d) (Int.dvd_mul_left _ _))
  have h2 : Int.gcd c d = 1 := by
    have := Int.le_of_dvd (by omega) h1
    have h0 : Int.gcd c d ≠ 0 := by
      intro e
      rw [e] at h1
      simp at h1
    omega
  unfold isP
  rw [h2]
  simp

set_option maxHeartbeats 4000000 in
theorem l06Number_is (n c d : Int) (h1 : 1 ≤ n) (h2 : n ≤ 60) (hc : I64 c) (hd : I64 d) (hp : isP n c d = true) (K : Nat) (hK : K < (ln n).length) (hat : (ln n).getD K (0, 0) = nrm n (rst c n) (rst d n)) (v : Value) (L : Nat) (w : World) (hG : GrSS w L v (prs (ln n))) :
    Calls Tryd.prog 31 #[(.int .i64 n), v, (.int .i64 c), (.int .i64 d)] w fun e w' => e = .returned (.int .i64 ((K : Int))) ∧ Below w.heap.size w w' := by
  obtain ⟨vs, hG⟩ := hG
  have b1 := rst_bd (x := c) h1
  have b2 := rst_bd (x := d) h1
  have hp' : isP n (rst c n) (rst d n) = true := by rw [isP_rst n c d h1]; exact hp
  have HX := Lib.hid (fun w => l01Mod_any c n h1 (by omega) hc w)
  have HY := Lib.hid (fun w => l01Mod_any d n h1 (by omega) hd w)
  have HM := Lib.hid (fun w => l06Normal_yes n (rst c n) (rst d n) h1 (by omega) ⟨b1.1, b1.2, b2.1, b2.2⟩ hp' _ hat.symm w)
  have HND := Lib.hid (fun i hi => nodup_ne (ln_nodup n) (i := i) (j := K) hi hK)
  generalize rst c n = s at *
  generalize rst d n = t at *
  obtain ⟨x, hx⟩ : ∃ x, ((ln n).getD K (0, 0)).1 = x := ⟨_, rfl⟩
  obtain ⟨y, hy⟩ : ∃ y, ((ln n).getD K (0, 0)).2 = y := ⟨_, rfl⟩
  have HK := Lib.hid (And.intro hx hy)
  rw [hx, hy] at HM
  obtain ⟨N, hN⟩ : ∃ N, (ln n).length = N := ⟨_, rfl⟩
  have hpl : (prs (ln n)).length = N := by simp [prs, hN]
  have HN := Lib.hid (And.intro hN hpl)
  have hNb : N ≤ 3600 := by rw [← hN]; exact ln_len h2
  rw [hN] at hK
  obtain ⟨ad, cap, hv⟩ := hG.shape
  subst hv
  rw [hpl] at hG ⊢
  have HG := Lib.hid hG
  clear hG hx hy hN hpl hat hp hp' hc hd b1 b2
  go_enter Tryd.func31, Tryd.ntmps31
  go_wp2_with fail
  refine (HX.out _).mono ?_
  rintro e w1 ⟨rfl, rfl⟩
  go_wp2_with fail
  refine (HY.out _).mono ?_
  rintro e w1 ⟨rfl, rfl⟩
  go_wp2_with fail
  refine (HM.out _).mono ?_
  rintro e w1 ⟨rfl, hb1⟩
  have HG1 := Lib.hid (HG.out.own hb1)
  go_wp2
  go_loop [12] (fun i => ∃ k : Nat, k ≤ K ∧ i = (.int .i64 ((k : Int)))) (fun i => K + 1 - (intOf i).toNat)
  case atStart => exact ⟨0, Nat.zero_le _, rfl⟩
  case round =>
    obtain ⟨k, hk, rfl⟩ := hrel
    have hkN : k < N := by omega
    have hjx : k < (prs (ln n)).length := by rw [HN.out.2]; exact hkN
    obtain ⟨g, rfl, _, _, hcl⟩ := HG1.out.rowAt rfl (by omega)
    have c0 := hcl k hjx
    have hrow := HG1.out.row hjx
    rw [prs_getX (by rw [HN.out.1]; exact hkN)] at hrow
    obtain ⟨ad2, cap2, e2⟩ := hrow.shape
    rw [e2] at hrow c0
    obtain ⟨g2, rfl, _, _, hc2⟩ := hrow.cellsZ (by simp)
    have c1 := (hc2 0 (by simp)).1
    have c2 := (hc2 1 (by simp)).1
    simp only [List.length_cons, List.length_nil, List.getD_cons_zero, List.getD_cons_succ, Nat.zero_add, Nat.reduceAdd] at c0 c1 c2
    clear hcl hc2 hrow e2
    by_cases hlt : k < K
    · have hne : ¬ (((ln n).getD k (0, 0)).1 = x ∧ ((ln n).getD k (0, 0)).2 = y) := fun h => HND.out k hlt (Prod.ext (h.1.trans HK.out.1.symm) (h.2.trans HK.out.2.symm))
      generalize ((ln n).getD k (0, 0)).1 = p at *
      generalize ((ln n).getD k (0, 0)).2 = q at *
      by_cases hpx : p = x
      · have hq : (q == y) = false := by
          simp
          intro h
          exact hne ⟨hpx, h⟩
        have hpx' : (p == x) = true := by simp [hpx]
        clear hne hpx
        go_wp2
        go_round
        case rel => exact ⟨k + 1, by omega, by go_num⟩
        case measure => simp [intOf]; omega
      · have hpx' : (p == x) = false := by simp [hpx]
        clear hne hpx
        go_wp2
        go_round
        case rel => exact ⟨k + 1, by omega, by go_num⟩
        case measure => simp [intOf]; omega
    · obtain rfl : k = K := by omega
      rw [HK.out.1] at c1
      rw [HK.out.2] at c2
      go_wp2
      go_ret
      exact ⟨rfl, hb1⟩

set_option maxHeartbeats 4000000 in
theorem cosetOf_is (n a b c d : Int) (h1 : 1 ≤ n) (h2 : n ≤ 60) (h : isM a b c d = true) (K : Nat) (hK : K < (ln n).length) (hat : (ln n).getD K (0, 0) = nrm n (rst c n) (rst d n)) (gu ou cu : Nat) (w : World) (hC : Cs w gu ou (cop n n.toNat)) :
    Calls Tryd.prog 42 #[.agg #[(.int .i64 n), .slice (some ⟨gu, ou, none⟩) (cop n n.toNat).length cu], (.agg #[.int .i64 a, .int .i64 b, .int .i64 c, .int .i64 d])] w fun e w' => e = .returned (.int .i64 ((K : Int))) ∧ Below w.heap.size w w' := by
  obtain ⟨ea, eb, ec, ed, _⟩ := isM_ent h
  have HN := Lib.hid (fun w hC => numbers_any n h1 h2 gu ou cu w hC)
  have HR := Lib.hid (fun lv w hL => normal_any n c d h1 h2 (ent_i64 ec) (ent_i64 ed) _ hat.symm lv w hL)
  have HF := Lib.hid (fN_at (ln n) K (ln_i64 h2) (ln_nodup n) hK)
  have hmem : (ln n).getD K (0, 0) ∈ ln n := by
    simp only [List.getD, List.getElem?_eq_getElem hK, Option.getD_some]
    exact List.getElem_mem hK
  have HI := Lib.hid (ln_i64 h2 _ hmem)
  have HC := Lib.hid hC
  generalize (ln n).getD K (0, 0) = r at *
  have hgu := hC.1
  clear hat h ea eb ec ed hmem
  go_enter Tryd.func42, Tryd.ntmps42
  go_wp2_with fail
  have BL : Box ((w.alloc (.cells #[(.int .i64 n), .slice (some ⟨gu, ou, none⟩) (cop n n.toNat).length cu] 54)).alloc (.cells #[(.int .i64 a), (.int .i64 b), (.int .i64 c), (.int .i64 d)] 58)) w.heap.size [(.int .i64 n), .slice (some ⟨gu, ou, none⟩) (cop n n.toNat).length cu] := Box.alloc (Box.new _ _ _) _
  have BM : Box ((w.alloc (.cells #[(.int .i64 n), .slice (some ⟨gu, ou, none⟩) (cop n n.toNat).length cu] 54)).alloc (.cells #[(.int .i64 a), (.int .i64 b), (.int .i64 c), (.int .i64 d)] 58)) (w.heap.size + 1) [(.int .i64 a), (.int .i64 b), (.int .i64 c), (.int .i64 d)] := Box.newAt (by simp) _ _
  have T : Below w.heap.size w ((w.alloc (.cells #[(.int .i64 n), .slice (some ⟨gu, ou, none⟩) (cop n n.toNat).length cu] 54)).alloc (.cells #[(.int .i64 a), (.int .i64 b), (.int .i64 c), (.int .i64 d)] 58)) := own_alloc (own_alloc (own_refl _) _) _
  generalize (w.alloc (.cells #[(.int .i64 n), .slice (some ⟨gu, ou, none⟩) (cop n n.toNat).length cu] 54)).alloc (.cells #[(.int .i64 a), (.int .i64 b), (.int .i64 c), (.int .i64 d)] 58) = W at *
  obtain ⟨_, _, _, _, _⟩ := BL.two
  obtain ⟨_, _, _, _, _, _, _, _, _⟩ := BM.four
  have Tz : Below w.heap.size w W.drew := own_drew T
  have BLz : Box W.drew w.heap.size [(.int .i64 n), .slice (some ⟨gu, ou, none⟩) (cop n n.toNat).length cu] := BL.drew
  have BMz : Box W.drew (w.heap.size + 1) [(.int .i64 a), (.int .i64 b), (.int .i64 c), (.int .i64 d)] := BM.drew
  go_region_held3 (fun w' => w'.cell? ⟨w.heap.size, 0, none⟩ = some (.int .i64 n) ∧ w'.cell? ⟨w.heap.size, 1, none⟩ = some (.slice (some ⟨gu, ou, none⟩) (cop n n.toNat).length cu) ∧ w'.cell? ⟨w.heap.size + 1, 2, none⟩ = some (.int .i64 c) ∧ w'.cell? ⟨w.heap.size + 1, 3, none⟩ = some (.int .i64 d)) (go_keep)
    (first
      | (go_at_call 64; refine (HN.out _ (HC.out.low Tz hgu)).mono ?_; rintro e w2 ⟨bm, rfl, hbm, hP2, hb2⟩; have T2 := own_trans Tz hb2; have BL2 := BLz.below hb2; have BM2 := BMz.below hb2; obtain ⟨_, _, _, _, _⟩ := BL2.two; obtain ⟨_, _, _, _, _, _, _, _, _⟩ := BM2.four; clear hb2)
      | (go_at_call 66; refine (HR.out _ _ ⟨gu, ou, cu, rfl, HC.out.low T2 hgu⟩).mono ?_; rintro e w3 ⟨rfl, hb3⟩; have T3 := own_trans T2 hb3; have BL3 := BL2.below hb3; have BM3 := BM2.below hb3; obtain ⟨_, _, _, _, _⟩ := BL3.two; obtain ⟨_, _, _, _, _, _, _, _, _⟩ := BM3.four; have hlk := (hP2.below hb3).look r HI.out.1 HI.out.2 (K : Int) HF.out; simp only [prV] at hlk; clear hb3))
  all_goals
    go_wp2
    go_ret
    exact ⟨rfl, T3⟩

end Go.Proofs.YtdcomnnpnhinfaaDoor
