/- CosetMatrix: contracts of both sides. -/
import Derived.Test.YtmijmlngbahaaaaDoorColP
import Derived.Test.YtmijmlngbahaaaaDoorMp
import Derived.Test.YtmijmlngbahaaaaDoorMS
namespace Go.Proofs.YtmijmlngbahaaaaDoor
open Go.ChangeShapes Go.WideShapes Go.ChangeAt Go.RowKit

theorem flatP_get : ∀ (ps : List (Int × Int)) (k : Nat), k < ps.length → (flatP ps).getD (2 * k) 0 = (ps.getD k (0, 0)).1 ∧ (flatP ps).getD (2 * k + 1) 0 = (ps.getD k (0, 0)).2
  | [], k, h => by simp at h
  | p :: ps, 0, _ => by simp [flatP]
  | p :: ps, k + 1, h => by
    obtain ⟨h1, h2⟩ := flatP_get ps k (by simpa using h)
    have e : flatP (p :: ps) = p.1 :: p.2 :: flatP ps := by simp [flatP]
    rw [e, show 2 * (k + 1) = 2 * k + 1 + 1 by omega, show 2 * k + 1 + 1 + 1 = 2 * k + 1 + 1 + 1 from rfl]
    simpa [List.getD] using And.intro h1 h2
theorem prs_get {l : List (Int × Int)} {k : Nat} (h : k < l.length) : (prs l).getD k [] = [(l.getD k (0, 0)).1, (l.getD k (0, 0)).2] := by
  simp [prs, List.getD, List.getElem?_map, List.getElem?_eq_getElem h]
/-- the pairs of a line -/
theorem rowL_mem {n c : Int} : ∀ {k : Nat} {p : Int × Int}, p ∈ rowL n c k → p.1 = c ∧ 0 ≤ p.2 ∧ p.2 < k ∧ okP n p.1 p.2 = true
  | 0, p, h => by simp [rowL] at h
  | k + 1, p, h => by
    rw [rowL] at h
    split at h
    · rename_i ho
      simp only [List.mem_append, List.mem_singleton] at h
      rcases h with h | rfl
      · obtain ⟨a, b, c, d⟩ := rowL_mem h
        exact ⟨a, b, by omega, d⟩
      · exact ⟨rfl, by simp, by simp; omega, ho⟩
    · obtain ⟨a, b, c, d⟩ := rowL_mem h
      exact ⟨a, b, by omega, d⟩
theorem lnL_mem {n : Int} : ∀ {k : Nat} {p : Int × Int}, p ∈ lnL n k → 0 ≤ p.1 ∧ p.1 < k ∧ 0 ≤ p.2 ∧ p.2 < n.toNat ∧ okP n p.1 p.2 = true
  | 0, p, h => by simp [lnL] at h
  | k + 1, p, h => by
    rw [lnL, List.mem_append] at h
    rcases h with h | h
    · obtain ⟨a, b, c, d, e⟩ := lnL_mem h
      exact ⟨a, by omega, c, d, e⟩
    · obtain ⟨a, b, c, d⟩ := rowL_mem h
      exact ⟨by omega, by omega, b, by omega, d⟩
theorem ln_at {n : Int} (h1 : 1 ≤ n) {k : Nat} (h : k < (ln n).length) : 0 ≤ ((ln n).getD k (0, 0)).1 ∧ ((ln n).getD k (0, 0)).1 < n ∧ 0 ≤ ((ln n).getD k (0, 0)).2 ∧ ((ln n).getD k (0, 0)).2 < n ∧ okP n ((ln n).getD k (0, 0)).1 ((ln n).getD k (0, 0)).2 = true := by
  have e : (ln n).getD k (0, 0) = (ln n)[k] := by simp [List.getD, List.getElem?_eq_getElem h]
  rw [e]
  obtain ⟨a, b, c, d, f⟩ := lnL_mem (n := n) (k := n.toNat) (p := (ln n)[k]) (List.getElem_mem h)
  exact ⟨a, by omega, c, by omega, f⟩

theorem collect_line (n : Int) (h1 : 1 ≤ n) (h2 : n ≤ 60) (cb gu ou cu : Nat) (w : World) (hB : Box w cb [(.int .i64 n), .slice (some ⟨gu, ou, none⟩) (cop n n.toNat).length cu]) (hC : Cs w gu ou (cop n n.toNat)) :
    Calls Tryd.prog 21 #[.func (.func 46) #[] #[.pointer (some ⟨cb, 0, none⟩)]] w fun e w' => ∃ v, e = .returned v ∧ GrP w' w.heap.size v (ln n).length (flatP (ln n)) ∧ Below w.heap.size w w' := by
  have HA := Lib.hid (appendSeqP_is (fun _ _ => by kernel_rfl) w (lineSeq n h1 h2 cb gu ou cu (fun b => b = cb ∨ b = gu) (.inl rfl) (.inr rfl) w hB hC) (fun b hb => by
    rcases hb with rfl | rfl
    · exact hB.1
    · exact hC.1) (fun pre x h => by
    have := h.length_le
    have := ln_len h2
    simp at *
    omega))
  go_enter Tryd.func21, Tryd.ntmps21
  go_wp2_with fail
  refine HA.out.mono ?_
  rintro e w1 ⟨v, ys, rfl, rfl, hG, hb1⟩
  go_wp2
  go_ret
  exact ⟨v, rfl, hG, hb1⟩

def RetM (a b c d k : Int) (w : World) (e : Ending) (w' : World) : Prop := e = .returned (.tuple #[(.agg #[.int .i64 a, .int .i64 b, .int .i64 c, .int .i64 d]), (.int .i64 k)]) ∧ Below w.heap.size w w'
set_option maxHeartbeats 1000000 in
theorem implCm_no (n i : Int) (h : inR n 1 60 = false) (w : World) : Calls Tryd.prog 8 #[(.int .i64 n), (.int .i64 i)] w (RetM 0 0 0 0 2 w) := by
  have H := Lib.hid h
  clear h
  go_enter Tryd.func8, Tryd.ntmps8
  go_wp2_with fail
  refine (isLevel_is false _ H.out _).mono ?_
  rintro e w1 ⟨rfl, rfl⟩
  have BZ : Box (w.alloc (.cells #[(.int .i64 0), (.int .i64 0), (.int .i64 0), (.int .i64 0)] 23)) w.heap.size [(.int .i64 0), (.int .i64 0), (.int .i64 0), (.int .i64 0)] := Box.new _ _ _
  obtain ⟨_, _, _, _, _, _, _, _, _⟩ := BZ.four
  go_wp2
  exact bodyPost_ret (v := .tuple #[(.agg #[.int .i64 0, .int .i64 0, .int .i64 0, .int .i64 0]), (.int .i64 2)]) (by simp [results, Tryd.results8, go_sem]) rfl ⟨rfl, by repeat (first | with_reducible exact own_refl _ | with_reducible assumption | with_reducible apply own_alloc | with_reducible apply own_drewN | with_reducible apply own_drew | ((with_reducible refine own_setCell ?_ ?_ _); rotate_left; focus (first | (simp; done) | (simp; omega))) | (with_reducible (refine own_trans ?_ (by assumption))))⟩
set_option maxHeartbeats 1000000 in
theorem specCm_no (n i : Int) (h : inR n 1 60 = false) (w : World) : Calls Tryd.prog 7 #[(.int .i64 n), (.int .i64 i)] w (RetM 0 0 0 0 2 w) := by
  have H := Lib.hid h
  clear h
  go_enter Tryd.func7, Tryd.ntmps7
  go_wp2_with fail
  refine (l01In_is false _ _ _ H.out _).mono ?_
  rintro e w1 ⟨rfl, rfl⟩
  have BZ : Box (w.alloc (.cells #[(.int .i64 0), (.int .i64 0), (.int .i64 0), (.int .i64 0)] 23)) w.heap.size [(.int .i64 0), (.int .i64 0), (.int .i64 0), (.int .i64 0)] := Box.new _ _ _
  obtain ⟨_, _, _, _, _, _, _, _, _⟩ := BZ.four
  go_wp2
  exact bodyPost_ret (v := .tuple #[(.agg #[.int .i64 0, .int .i64 0, .int .i64 0, .int .i64 0]), (.int .i64 2)]) (by simp [results, Tryd.results7, go_sem]) rfl ⟨rfl, by repeat (first | with_reducible exact own_refl _ | with_reducible assumption | with_reducible apply own_alloc | with_reducible apply own_drewN | with_reducible apply own_drew | ((with_reducible refine own_setCell ?_ ?_ _); rotate_left; focus (first | (simp; done) | (simp; omega))) | (with_reducible (refine own_trans ?_ (by assumption))))⟩
set_option maxHeartbeats 2000000 in
theorem implCm_yes (n i : Int) (h : inR n 1 60 = true) (r : Bool) (hr : inR i 0 ((ln n).length - 1 : Int) = r) (x y z t k : Int)
    (hres : r = true → ∀ w : World, Idn w → Calls Tryd.prog 24 #[.agg #[(.int .i64 (((ln n).getD i.toNat (0, 0)).1)), (.int .i64 (((ln n).getD i.toNat (0, 0)).2))]] w fun e w' => e = .returned (.agg #[.int .i64 x, .int .i64 y, .int .i64 z, .int .i64 t]) ∧ Below w.heap.size w w')
    (hk : (r = true ∧ k = 0) ∨ (r = false ∧ x = 0 ∧ y = 0 ∧ z = 0 ∧ t = 0 ∧ k = 2)) (hi64 : I64 i) (w : World) (hid : Idn w) : Calls Tryd.prog 8 #[(.int .i64 n), (.int .i64 i)] w (RetM x y z t k w) := by
  have hn : 1 ≤ n ∧ n ≤ 60 := of_decide_eq_true h
  have H := Lib.hid h
  have HL := Lib.hid (fun w => levelOf_own n hn.1 hn.2 w)
  have hlen := ln_len hn.2
  have HID := Lib.hid hid
  have HC := Lib.hid (fun cb gu ou cu w hB hC => collect_line n hn.1 hn.2 cb gu ou cu w hB hC)
  obtain ⟨_, _⟩ := hi64
  obtain ⟨N, hN⟩ : ∃ N, (ln n).length = N := ⟨_, rfl⟩
  have HN := Lib.hid hN
  rw [hN] at hr hlen HC
  have HR := Lib.hid hres
  have HK := Lib.hid hk
  clear h hid hres hk hN
  go_enter Tryd.func8, Tryd.ntmps8
  go_wp2_with fail
  refine (isLevel_is true _ H.out _).mono ?_
  rintro e w1 ⟨rfl, rfl⟩
  have BZ : Box (w.alloc (.cells #[(.int .i64 0), (.int .i64 0), (.int .i64 0), (.int .i64 0)] 23)) w.heap.size [(.int .i64 0), (.int .i64 0), (.int .i64 0), (.int .i64 0)] := Box.new _ _ _
  have T : Below w.heap.size w (w.alloc (.cells #[(.int .i64 0), (.int .i64 0), (.int .i64 0), (.int .i64 0)] 23)) := own_alloc (own_refl _) _
  go_wp2_with fail
  refine (HL.out _).mono ?_
  rintro e w2 ⟨gu, ou, cu, rfl, hgu, hC, hb2⟩
  have T := own_trans T hb2
  have BZ := BZ.below hb2
  go_wp2_with fail
  refine (line_func n _ _).mono ?_
  rintro e w3 ⟨rfl, rfl⟩
  have T := own_alloc T (.cells #[(.int .i64 n), .slice (some ⟨gu, ou, none⟩) (cop n n.toNat).length cu] 50)
  have BZ := BZ.alloc (.cells #[(.int .i64 n), .slice (some ⟨gu, ou, none⟩) (cop n n.toNat).length cu] 50)
  go_wp2_with fail
  refine (HC.out w2.heap.size gu ou cu _ (Box.new _ _ _) (hC.below (own_alloc (own_refl w2) _))).mono ?_
  rintro e w4 ⟨v, rfl, hG, hb4⟩
  have T := own_trans T hb4
  have BZ := BZ.below hb4
  obtain ⟨_, _, _, _, _, _, _, _, _⟩ := BZ.four
  obtain ⟨ad, cap, hv⟩ := hG.shape
  subst hv
  have HS := Lib.hid hG.sl
  cases r
  · obtain ⟨rfl, rfl, rfl, rfl, rfl⟩ : x = 0 ∧ y = 0 ∧ z = 0 ∧ t = 0 ∧ k = 2 := by simpa using HK.out
    have hr' : i < 0 ∨ (N : Int) ≤ i := by
      have := of_decide_eq_false hr
      omega
    clear hr hG
    rcases hr' with hr' | hr'
    all_goals
      go_wp2
      obtain ⟨_, e0, e1, e2, e3, _, _, _, _⟩ := (BZ.put4 (.int .i64 0) (.int .i64 0) (.int .i64 0) (.int .i64 0)).four
      exact bodyPost_ret (v := .tuple #[(.agg #[.int .i64 0, .int .i64 0, .int .i64 0, .int .i64 0]), (.int .i64 2)]) (by simp [results, Tryd.results8, go_sem, e0, e1, e2, e3]) rfl ⟨rfl, by repeat (first | with_reducible exact own_refl _ | with_reducible assumption | with_reducible apply own_alloc | with_reducible apply own_drewN | with_reducible apply own_drew | ((with_reducible refine own_setCell ?_ ?_ _); rotate_left; focus (first | (simp; done) | (simp; omega))) | (with_reducible (refine own_trans ?_ (by assumption))))⟩
  · obtain rfl : k = 0 := by simpa using HK.out
    have hr' := of_decide_eq_true hr
    obtain ⟨j, rfl⟩ : ∃ j : Nat, i = (j : Int) := ⟨i.toNat, by omega⟩
    have hj : j < N := by omega
    obtain ⟨_, _, a', cap', e, hc⟩ := HS.out
    obtain ⟨g, rfl, _, hg, hcell⟩ := hc (by omega)
    injection e with e1 e2 e3
    subst e1 e3
    obtain ⟨f1, f2⟩ := flatP_get (ln n) j (by rw [HN.out]; exact hj)
    have c1 := (hcell (2 * j) (by omega)).1
    have c2 := (hcell (2 * j + 1) (by omega)).1
    rw [f1, Nat.mul_comm] at c1
    rw [f2, Nat.mul_comm] at c2
    have IX : Idn w4 := Rd.below HID.out T
    have HM := Lib.hid (HR.out rfl)
    simp only [Int.toNat_natCast] at HM
    generalize ((ln n).getD j (0, 0)).1 = p at *
    generalize ((ln n).getD j (0, 0)).2 = q at *
    clear hr hG hc hcell f1 f2
    go_wp2_with fail
    refine (HM.out _ IX).mono ?_
    rintro e w5 ⟨rfl, hb5⟩
    have BZ := BZ.below hb5
    obtain ⟨_, _, _, _, _, _, _, _, _⟩ := BZ.four
    go_wp2
    obtain ⟨_, e0, e1, e2, e3, _, _, _, _⟩ := (BZ.put4 (.int .i64 x) (.int .i64 y) (.int .i64 z) (.int .i64 t)).four
    exact bodyPost_ret (v := .tuple #[(.agg #[.int .i64 x, .int .i64 y, .int .i64 z, .int .i64 t]), (.int .i64 0)]) (by simp [results, Tryd.results8, go_sem, e0, e1, e2, e3]) rfl ⟨rfl, by repeat (first | with_reducible exact own_refl _ | with_reducible assumption | with_reducible apply own_alloc | with_reducible apply own_drewN | with_reducible apply own_drew | ((with_reducible refine own_setCell ?_ ?_ _); rotate_left; focus (first | (simp; done) | (simp; omega))) | (with_reducible (refine own_trans ?_ (by assumption))))⟩

set_option maxHeartbeats 2000000 in
theorem specCm_yes (n i : Int) (h : inR n 1 60 = true) (r : Bool) (hr : inR i 0 ((ln n).length - 1 : Int) = r) (x y z t k : Int)
    (hres : r = true → ∀ w : World, Calls Tryd.prog 19 #[(.int .i64 n), (.int .i64 (((ln n).getD i.toNat (0, 0)).1)), (.int .i64 (((ln n).getD i.toNat (0, 0)).2))] w fun e w' => e = .returned (.agg #[.int .i64 x, .int .i64 y, .int .i64 z, .int .i64 t]) ∧ Below w.heap.size w w')
    (hk : (r = true ∧ k = 0) ∨ (r = false ∧ x = 0 ∧ y = 0 ∧ z = 0 ∧ t = 0 ∧ k = 2)) (w : World) : Calls Tryd.prog 7 #[(.int .i64 n), (.int .i64 i)] w (RetM x y z t k w) := by
  have hn : 1 ≤ n ∧ n ≤ 60 := of_decide_eq_true h
  have H := Lib.hid h
  have HL := Lib.hid (fun w => l06Line_is n hn.1 hn.2 w)
  have hlen := ln_len hn.2
  obtain ⟨N, hN⟩ : ∃ N, (ln n).length = N := ⟨_, rfl⟩
  have hpl : (prs (ln n)).length = N := by simp [prs, hN]
  have HN := Lib.hid (And.intro hN hpl)
  rw [hN] at hr hlen
  have HI := Lib.hid hr
  have HR := Lib.hid hres
  have HK := Lib.hid hk
  clear h hres hk hN hpl
  go_enter Tryd.func7, Tryd.ntmps7
  go_wp2_with fail
  refine (l01In_is true _ _ _ H.out _).mono ?_
  rintro e w1 ⟨rfl, rfl⟩
  have BZ : Box (w.alloc (.cells #[(.int .i64 0), (.int .i64 0), (.int .i64 0), (.int .i64 0)] 23)) w.heap.size [(.int .i64 0), (.int .i64 0), (.int .i64 0), (.int .i64 0)] := Box.new _ _ _
  have T : Below w.heap.size w (w.alloc (.cells #[(.int .i64 0), (.int .i64 0), (.int .i64 0), (.int .i64 0)] 23)) := own_alloc (own_refl _) _
  go_wp2_with fail
  refine (HL.out _).mono ?_
  rintro e w2 ⟨v, rfl, ⟨vs, hG⟩, hb2⟩
  have T := own_trans T hb2
  have BZ := BZ.below hb2
  have hz0 := BZ.1
  obtain ⟨_, _, _, _, _, _, _, _, _⟩ := BZ.four
  obtain ⟨ad, cap, hv⟩ := hG.shape
  subst hv
  rw [HN.out.2] at hG ⊢
  have HGV := Lib.hid hG
  have hw1 : IntKind.i64.wrap ((N : Int) - 1) = (N : Int) - 1 := IntWalk.i64_in _ (by omega)
  clear hG
  go_wp2_with fail
  refine (l01In_is r _ _ _ HI.out _).mono ?_
  rintro e w1 ⟨rfl, rfl⟩
  cases r
  · obtain ⟨rfl, rfl, rfl, rfl, rfl⟩ : x = 0 ∧ y = 0 ∧ z = 0 ∧ t = 0 ∧ k = 2 := by simpa using HK.out
    clear hr
    go_wp2
    obtain ⟨_, e0, e1, e2, e3, _, _, _, _⟩ := (BZ.put4 (.int .i64 0) (.int .i64 0) (.int .i64 0) (.int .i64 0)).four
    exact bodyPost_ret (v := .tuple #[(.agg #[.int .i64 0, .int .i64 0, .int .i64 0, .int .i64 0]), (.int .i64 2)]) (by simp [results, Tryd.results7, go_sem, e0, e1, e2, e3]) rfl ⟨rfl, by repeat (first | with_reducible exact own_refl _ | with_reducible assumption | with_reducible apply own_alloc | with_reducible apply own_drewN | with_reducible apply own_drew | ((with_reducible refine own_setCell ?_ ?_ _); rotate_left; focus (first | (simp; done) | (simp; omega))) | (with_reducible (refine own_trans ?_ (by assumption))))⟩
  · obtain rfl : k = 0 := by simpa using HK.out
    have hr' := of_decide_eq_true hr
    obtain ⟨j, rfl⟩ : ∃ j : Nat, i = (j : Int) := ⟨i.toNat, by omega⟩
    have hj : j < N := by omega
    have hjx : j < (prs (ln n)).length := by rw [HN.out.2]; exact hj
    obtain ⟨g, rfl, hgL, hgl, hc⟩ := HGV.out.rowAt rfl (by omega)
    have c0 := hc j hjx
    have hrow := HGV.out.row hjx
    rw [prs_get (by rw [HN.out.1]; exact hj)] at hrow
    have HM := Lib.hid (HR.out rfl)
    simp only [Int.toNat_natCast] at HM
    generalize ((ln n).getD j (0, 0)).1 = p at *
    generalize ((ln n).getD j (0, 0)).2 = q at *
    obtain ⟨ad2, cap2, e2⟩ := hrow.shape
    rw [e2] at hrow c0
    obtain ⟨g2, rfl, hgL2, hgl2, hc2⟩ := hrow.cellsZ (by simp)
    simp only [World.size_alloc] at hgL hgL2
    have n1 : ¬ g = w.heap.size := by omega
    have n2 : ¬ w.heap.size = g := by omega
    have n3 : ¬ g2 = w.heap.size := by omega
    have n4 : ¬ w.heap.size = g2 := by omega
    have c1 := (hc2 0 (by simp)).1
    have c2 := (hc2 1 (by simp)).1
    simp only [List.length_cons, List.length_nil, List.getD_cons_zero, List.getD_cons_succ, Nat.zero_add, Nat.reduceAdd] at c0 c1 c2
    clear hr hc hc2 hrow e2
    go_wp2_with fail
    go_region_held3 (fun w' => w'.cell? ⟨g, j, none⟩ = some (.slice (some ⟨g2, 0, none⟩) 2 cap2) ∧ w'.cell? ⟨g2, 0, none⟩ = some (.int .i64 p) ∧ w'.cell? ⟨g2, 1, none⟩ = some (.int .i64 q)) (go_keep)
      (first | (go_at_call 19; refine (HM.out _).mono ?_; rintro e w5 ⟨rfl, hb5⟩; have T5 := own_trans (own_drew T) hb5; have BZ5 := (Box.drew BZ).below hb5; obtain ⟨_, _, _, _, _, _, _, _, _⟩ := BZ5.four; have k0 := (hb5.cell (p := ⟨g, j, none⟩) hgl).trans c0; have k1 := (hb5.cell (p := ⟨g2, 0, none⟩) hgl2).trans c1; have k2 := (hb5.cell (p := ⟨g2, 1, none⟩) hgl2).trans c2; clear hb5))
    all_goals
      go_wp2
      obtain ⟨_, e0, e1, e2, e3, _, _, _, _⟩ := (BZ5.put4 (.int .i64 x) (.int .i64 y) (.int .i64 z) (.int .i64 t)).four
      exact bodyPost_ret (v := .tuple #[(.agg #[.int .i64 x, .int .i64 y, .int .i64 z, .int .i64 t]), (.int .i64 0)]) (by simp [results, Tryd.results7, go_sem, e0, e1, e2, e3]) rfl ⟨rfl, by repeat (first | with_reducible exact own_refl _ | with_reducible assumption | with_reducible apply own_alloc | with_reducible apply own_drewN | with_reducible apply own_drew | ((with_reducible refine own_setCell ?_ ?_ _); rotate_left; focus (first | (simp; done) | (simp; omega))) | (with_reducible (refine own_trans ?_ (by assumption))))⟩

theorem Cm_both (n i : Int) (hi64 : I64 i) : ∃ x y z t k : Int,
    (∀ w : World, Calls Tryd.prog 7 #[(.int .i64 n), (.int .i64 i)] w (RetM x y z t k w)) ∧ (∀ w : World, Idn w → Calls Tryd.prog 8 #[(.int .i64 n), (.int .i64 i)] w (RetM x y z t k w)) := by
  rcases h : inR n 1 60 with _ | _
  · exact ⟨_, _, _, _, _, specCm_no n i h, fun w _ => implCm_no n i h w⟩
  have hn : 1 ≤ n ∧ n ≤ 60 := of_decide_eq_true h
  rcases hr : inR i 0 ((ln n).length - 1 : Int) with _ | _
  · exact ⟨0, 0, 0, 0, 2, specCm_yes n i h false hr _ _ _ _ _ (fun h => by cases h) (.inr ⟨rfl, rfl, rfl, rfl, rfl, rfl⟩), fun w hid => implCm_yes n i h false hr _ _ _ _ _ (fun h => by cases h) (.inr ⟨rfl, rfl, rfl, rfl, rfl, rfl⟩) hi64 w hid⟩
  have hi : 0 ≤ i ∧ i ≤ ((ln n).length - 1 : Int) := of_decide_eq_true hr
  obtain ⟨p0, p1, q0, q1, hok⟩ := ln_at hn.1 (k := i.toNat) (by omega)
  obtain ⟨p, hp⟩ : ∃ p, ((ln n).getD i.toNat (0, 0)).1 = p := ⟨_, rfl⟩
  obtain ⟨q, hq⟩ : ∃ q, ((ln n).getD i.toNat (0, 0)).2 = q := ⟨_, rfl⟩
  rw [hp] at p0 p1 hok
  rw [hq] at q0 q1 hok
  rcases (show p = 0 ∨ 0 < p by omega) with e | e
  · exact ⟨1, 0, 0, 1, 0, specCm_yes n i h true hr _ _ _ _ _ (fun _ w => by rw [hp, hq, e]; exact l06Matrix_zero n q w) (.inl ⟨rfl, rfl⟩),
      fun w hid => implCm_yes n i h true hr _ _ _ _ _ (fun _ w hid => by rw [hp, hq, e]; exact matrixOfPair_zero q w hid) (.inl ⟨rfl, rfl⟩) hi64 w hid⟩
  · have hg := pair_gcd hn.1 hn.2 e p1 hok
    obtain ⟨a, ha, h0, hm⟩ := inv_least (c := p) (d := q) (by omega) (by omega) q0 (by omega) hg
    exact ⟨_, _, _, _, 0, specCm_yes n i h true hr _ _ _ _ _ (fun _ w => by rw [hp, hq]; exact l06Matrix_any n p q (by omega) (by omega) q0 (by omega) hg a ha h0 hm _ rfl w) (.inl ⟨rfl, rfl⟩),
      fun w hid => implCm_yes n i h true hr _ _ _ _ _ (fun _ w _ => by rw [hp, hq]; exact matrixOfPair_any p q (by omega) (by omega) q0 (by omega) a ha h0 hm _ rfl w) (.inl ⟨rfl, rfl⟩) hi64 w hid⟩
end Go.Proofs.YtmijmlngbahaaaaDoor
