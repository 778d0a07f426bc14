/- CuspOfFraction: both sides. CuspOfFraction: the program's side. The laws' helpers over fractions. The walk of the law FnExactCuspOfFraction, where both sides answer alike. -/
import Derived.Test.YtdcomnnpnhinfaaDoorCfK1
import Derived.Test.YtdcomnnpnhinfaaDoorCfK2
import Derived.Test.YtdcomnnpnhinfaaDoorCfK4
import Derived.Test.YtdcomnnpnhinfaaDoorCfK5
import Derived.Test.YtdcomnnpnhinfaaDoorCo
import Derived.Test.YtdcomnnpnhinfaaDoorBase
/- CuspOfFraction: both sides. -/
namespace Go.Proofs.YtdcomnnpnhinfaaDoor
open Go.ChangeShapes Go.WideShapes Go.ChangeAt Go.RowKit

theorem isF_isK (r : Bool) (p q : Int) (h : isF p q = r) (w : World) : Calls Tryd.prog 40 #[(.agg #[.int .i64 p, .int .i64 q])] w fun e w' => e = .returned (.bool r) ∧ Below w.heap.size w w' := h ▸ implIsF_any p q w
theorem l01F_isK (r : Bool) (p q : Int) (h : isF p q = r) (w : World) : Calls Tryd.prog 37 #[(.agg #[.int .i64 p, .int .i64 q])] w fun e w' => e = .returned (.bool r) ∧ Below w.heap.size w w' := h ▸ l01Fraction_any p q w
theorem ret2K {a b : Int} (h : a = b) : Ending.returned (.tuple #[(.int .i64 a), (.int .i64 0)]) = Ending.returned (.tuple #[(.int .i64 b), (.int .i64 0)]) := by rw [h]
/-- the cusp of the coset of q and s -/
def cuspK (n : Int) (N : Nat) (q s : Int) : Int := (cus n N).1.getD (kOf n q s) 0
/-- a second number below a fraction -/
def Sec (p q s : Int) : Prop := q ∣ p * s - 1 ∧ (q = 0 → s = 1) ∧ Ent s
theorem sec_pair {n p q s : Int} (h : Sec p q s) : isP n q s = true := by
  obtain ⟨⟨k, hk⟩, h0, -⟩ := h
  have hg : Int.gcd q s = 1 := by
    by_cases e : q = 0
    · rw [e, h0 e]; rfl
    · refine Int.gcd_eq_one_iff.2 fun d d1 d2 => ?_
      have e1 : p * s - q * k = 1 := by omega
      have : d ∣ p * s - q * k := Int.dvd_sub (Int.dvd_mul_of_dvd_right d2) (Int.dvd_mul_of_dvd_left d1)
      rwa [e1] at this
  unfold isP
  rw [hg]
  simp
theorem sec_same {n p q s t : Int} (h1 : 1 ≤ n) {N : Nat} (hN : (ln n).length = N) (hs : Sec p q s) (ht : Sec p q t) : cuspK n N q s = cuspK n N q t := by
  by_cases e : q = 0
  · rw [hs.2.1 e, ht.2.1 e]
  · have hd : q ∣ s - t := by
      obtain ⟨x, hx⟩ := hs.1
      obtain ⟨y, hy⟩ := ht.1
      exact ⟨t * x - s * y, by grind⟩
    obtain ⟨k, hk⟩ := hd
    have := cus_T h1 hN k (sec_pair ht)
    unfold cuspK
    rw [← this, show s = t + k * q by rw [Int.mul_comm]; omega]
/-- the cusp's number is a number of a cusp -/
theorem cuspK_lt {n q s : Int} (h1 : 1 ≤ n) {N : Nat} (hN : (ln n).length = N) (hp : isP n q s = true) : ∃ K : Nat, cuspK n N q s = (K : Int) ∧ K < (cus n N).2 := by
  have hk := (kOf_spec h1 hp).1
  have h0 := (cus_cl h1 N (by omega)).2 _ (show kOf n q s < N by omega)
  have h2 := ((cys_is h1 N (by omega)).2.1 _ hk).2
  exact ⟨(cuspK n N q s).toNat, by unfold cuspK; omega, by unfold cuspK; omega⟩
set_option maxHeartbeats 2000000 in
theorem specCf_bad (n p q : Int) (h : isF p q = false) (w : World) : Calls Tryd.prog 13 #[(.int .i64 n), (.agg #[.int .i64 p, .int .i64 q])] w fun e w' => e = .returned (.tuple #[(.int .i64 0), (.int .i64 1)]) ∧ Below w.heap.size w w' := by
  have H := Lib.hid h
  clear h
  have B0 : Box (w.alloc (.cells #[(.int .i64 p), (.int .i64 q)] 33)) w.heap.size [.int .i64 p, .int .i64 q] := Box.new _ _ _
  have T0 := own_alloc (own_refl w) (.cells #[(.int .i64 p), (.int .i64 q)] 33)
  go_enter Tryd.func13, Tryd.ntmps13
  go_wp2_with fail
  refine (l01F_isK false _ _ H.out _).mono ?_
  rintro e w2 ⟨rfl, hb2⟩
  go_wp2
  go_ret2
  exact ⟨rfl, own_trans T0 hb2⟩
set_option maxHeartbeats 2000000 in
theorem specCf_no (n p q : Int) (h : isF p q = true) (hn : inR n 1 60 = false) (w : World) : Calls Tryd.prog 13 #[(.int .i64 n), (.agg #[.int .i64 p, .int .i64 q])] w fun e w' => e = .returned (.tuple #[(.int .i64 0), (.int .i64 2)]) ∧ Below w.heap.size w w' := by
  have H := Lib.hid h
  have HN := Lib.hid hn
  clear h hn
  have B0 : Box (w.alloc (.cells #[(.int .i64 p), (.int .i64 q)] 33)) w.heap.size [.int .i64 p, .int .i64 q] := Box.new _ _ _
  have T0 := own_alloc (own_refl w) (.cells #[(.int .i64 p), (.int .i64 q)] 33)
  go_enter Tryd.func13, Tryd.ntmps13
  go_wp2_with fail
  refine (l01F_isK true _ _ H.out _).mono ?_
  rintro e w2 ⟨rfl, hb2⟩
  go_wp2_with fail
  refine (l01In_is false _ _ _ HN.out _).mono ?_
  rintro e w3 ⟨rfl, rfl⟩
  go_wp2
  go_ret2
  exact ⟨rfl, own_trans T0 hb2⟩
set_option maxRecDepth 100000 in
set_option maxHeartbeats 8000000 in
theorem specCf_yes (n p q : Int) (h : isF p q = true) (hn : inR n 1 60 = true) (N : Nat) (hN : (ln n).length = N) (w : World) : Calls Tryd.prog 13 #[(.int .i64 n), (.agg #[.int .i64 p, .int .i64 q])] w fun e w' => ∃ s, e = .returned (.tuple #[(.int .i64 (cuspK n N q s)), (.int .i64 0)]) ∧ Hid (Sec p q s) ∧ Below w.heap.size w w' := by
  have hn' : 1 ≤ n ∧ n ≤ 60 := of_decide_eq_true hn
  obtain ⟨hp, hq0, hq1, hg, hor⟩ := of_decide_eq_true h
  have H := Lib.hid h
  have HN := Lib.hid hn
  have HB := Lib.hid hn'
  have HNL := Lib.hid hN
  have HL := Lib.hid (fun w => l06Line_is n hn'.1 hn'.2 w)
  have HC := Lib.hid (fun v L w hG => l06Cusps_is n hn'.1 hn'.2 v L w hG N hN)
  have HO := Lib.hid (fun w => l06Bottom_is p q h w)
  have hpl : (prs (ln n)).length = N := by simp [prs, hN]
  have HPL := Lib.hid hpl
  have hcl := (cus_len n N).1
  rw [hN] at hcl
  have hqI : I64 q := by unfold I64; omega
  have HQI := Lib.hid hqI
  have HKN := Lib.hid (fun s (hs : Sec p q s) v L w hG => l06Number_is n q s hn'.1 hn'.2 hqI (ent_i64 hs.2.2) (sec_pair hs) (kOf n q s) (kOf_spec hn'.1 (sec_pair hs)).1 (kOf_spec hn'.1 (sec_pair hs)).2 v L w hG)
  have HCL := Lib.hid hcl
  clear h hn hn' hN hpl hcl hp hq0 hq1 hg hor hqI
  have B0 : Box (w.alloc (.cells #[(.int .i64 p), (.int .i64 q)] 33)) w.heap.size [.int .i64 p, .int .i64 q] := Box.new _ _ _
  have T0 := own_alloc (own_refl w) (.cells #[(.int .i64 p), (.int .i64 q)] 33)
  go_enter Tryd.func13, Tryd.ntmps13
  go_wp2_with fail
  refine (l01F_isK true _ _ H.out _).mono ?_
  rintro e w2 ⟨rfl, hb2⟩
  have B2 := B0.below hb2
  have T2 := own_trans T0 hb2
  go_wp2_with fail
  refine (l01In_is true _ _ _ HN.out _).mono ?_
  rintro e w3 ⟨rfl, rfl⟩
  go_wp2_with fail
  refine (HL.out _).mono ?_
  rintro e w3 ⟨v3, rfl, G3, hb3⟩
  obtain ⟨ad, cap, e⟩ := G3.shape
  subst e
  rw [HPL.out] at G3 ⊢
  have B3 := B2.below hb3
  have T3 := own_trans T2 hb3
  clear B0 T0 B2 T2 hb2 hb3
  go_wp2_with fail
  refine (HC.out _ _ _ G3).mono ?_
  rintro e w4 ⟨v4, rfl, G4, hb4⟩
  obtain ⟨ad4, cap4, e⟩ := G4.shape
  subst e
  rw [HCL.out] at G4 ⊢
  have B4 := B3.below hb4
  have T4 := own_trans T3 hb4
  have GL4 := G3.own hb4
  clear B3 T3 hb4 G3
  go_upto_region 7 with fail
  obtain ⟨-, c0, c1, -, -⟩ := B4.two
  refine wp_region_held_drew (S := (fun w' => w'.cell? ⟨w.heap.size, 0, none⟩ = some (.int .i64 p) ∧ w'.cell? ⟨w.heap.size, 1, none⟩ = some (.int .i64 q))) (by kernel_rfl) ⟨c0, c1⟩ (fun hHeld => ?_)
  have BD := B4.drew
  have TD := own_drew T4
  have GD := G4.drew
  have LD := GL4.own (own_drew (own_refl w4))
  refine wpAnyH_take (i := 0) (oi := _) (v := .slice ad4 N cap4) rfl (by kernel_rfl) (by kernel_rfl) (by kernel_rfl) (fun _ _ _ h => h) (Or.inl ⟨by rfl, fun w hSw => by obtain ⟨_, _⟩ := hSw; go_simp⟩) (by assumption) ?_
  simp only [Act.put, List.setIfInBounds_toArray]
  refine wpAnyH_take (i := 1) (oi := _) (v := (.int .i64 n)) rfl (by kernel_rfl) (by kernel_rfl) (by kernel_rfl) (fun _ _ _ h => h) (Or.inl ⟨by rfl, fun w hSw => by obtain ⟨_, _⟩ := hSw; go_simp⟩) (by assumption) ?_
  simp only [Act.put]
  refine wpAnyH_take (i := 2) (oi := _) (v := .slice ad N cap) rfl (by kernel_rfl) (by kernel_rfl) (by kernel_rfl) (fun _ _ _ h => h) (Or.inl ⟨by rfl, fun w hSw => by obtain ⟨_, _⟩ := hSw; go_simp⟩) (by assumption) ?_
  simp only [Act.put]
  refine wpAnyH_take (i := 3) (oi := _) (v := .pointer (some ⟨w.heap.size, 1, none⟩)) rfl (by kernel_rfl) (by kernel_rfl) (by kernel_rfl) (fun _ _ _ h => h) (Or.inl ⟨by rfl, fun w hSw => by obtain ⟨_, _⟩ := hSw; go_simp⟩) (by assumption) ?_
  simp only [Act.put]
  refine wpAnyH_take (i := 4) (oi := _) (v := (.int .i64 q)) rfl (by kernel_rfl) (by kernel_rfl) (by kernel_rfl) (fun _ _ _ h => h) (Or.inl ⟨by rfl, fun w hSw => by obtain ⟨_, _⟩ := hSw; go_simp⟩) (by assumption) ?_
  simp only [Act.put]
  refine wpAnyH_take (i := 5) (oi := _) (v := (.agg #[.int .i64 p, .int .i64 q])) rfl (by kernel_rfl) (by kernel_rfl) (by kernel_rfl) (fun _ _ _ h => h) (Or.inl ⟨by rfl, fun w hSw => by obtain ⟨_, _⟩ := hSw; go_simp⟩) (by assumption) ?_
  simp only [Act.put]
  refine wpAnyH_ready (rs := [6]) (by kernel_rfl) (by simp) ?_
  refine AllReadyH.cons (o := _) rfl (fun KK hK => ?_) AllReadyH.nil
  go_simp
  refine (HO.out _).mono ?_
  rintro e w6 ⟨s, rfl, HS, hb6⟩
  have B6 := BD.below hb6
  have T6 := own_trans TD hb6
  have G6 := GD.own hb6
  have L6 := LD.own hb6
  obtain ⟨-, d0, d1, -, -⟩ := B6.two
  refine hK.out _ _ ⟨d0, d1⟩ (fun _ => ?_)
  clear hK KK BD TD GD LD hb6 c0 c1
  try simp only [Act.put, List.setIfInBounds_toArray, List.set_cons_zero, List.set_cons_succ]
  refine wpAnyH_ready (rs := [7]) (by kernel_rfl) (by simp) ?_
  refine AllReadyH.cons (o := _) rfl (fun KK hK => ?_) AllReadyH.nil
  go_simp
  have hK2 := (kOf_spec HB.out.1 (sec_pair HS.out)).1
  rw [HNL.out] at hK2
  refine (HKN.out s HS.out _ _ _ L6).mono ?_
  rintro e w7 ⟨rfl, hb7⟩
  have B7 := B6.below hb7
  have T7 := own_trans T6 hb7
  have G7 := G6.own hb7
  obtain ⟨-, k0, k1, -, -⟩ := B7.two
  obtain ⟨g7, e, -, -, hc7⟩ := G7.cellsZ (by omega)
  subst e
  have c7 := (hc7 _ hK2).1
  have HX : Hid (cuspK n N q s = (cus n N).1.getD (kOf n q s) 0) := Lib.hid rfl
  generalize (cus n N).1.getD (kOf n q s) 0 = x at *
  generalize kOf n q s = K at *
  refine hK.out _ _ ⟨k0, k1⟩ (fun _ => ?_)
  clear hK KK B6 T6 G6 L6 hb7 d0 d1 hc7
  try simp only [Act.put, List.setIfInBounds_toArray, List.set_cons_zero, List.set_cons_succ]
  refine wpAnyH_ready (rs := [8]) (by kernel_rfl) (by simp) ?_
  refine AllReadyH.cons (o := _) rfl (fun KK hK => ?_) AllReadyH.nil
  go_simp
  refine hK.out _ _ ⟨k0, k1⟩ (fun _ => ?_)
  clear hK KK
  try simp only [Act.put, List.setIfInBounds_toArray, List.set_cons_zero, List.set_cons_succ]
  refine wpAnyH_ready (rs := [9]) (by kernel_rfl) (by simp) ?_
  refine AllReadyH.cons (o := _) rfl (fun KK hK => ?_) AllReadyH.nil
  go_simp
  refine hK.out _ _ ⟨k0, k1⟩ (fun _ => ?_)
  clear hK KK
  try simp only [Act.put, List.setIfInBounds_toArray, List.set_cons_zero, List.set_cons_succ]
  refine wpAnyH_ready (rs := [10]) (by kernel_rfl) (by simp) ?_
  refine AllReadyH.cons (o := _) rfl (fun KK hK => ?_) AllReadyH.nil
  go_simp
  refine hK.out _ _ ⟨k0, k1⟩ (fun _ => ?_)
  clear hK KK
  try simp only [Act.put, List.setIfInBounds_toArray, List.set_cons_zero, List.set_cons_succ]
  refine wpAnyH_ready (rs := [11]) (by kernel_rfl) (by simp) ?_
  refine AllReadyH.cons (o := _) rfl (fun KK hK => ?_) AllReadyH.nil
  go_simp
  refine hK.out _ _ ⟨k0, k1⟩ (fun _ => ?_)
  clear hK KK
  try simp only [Act.put, List.setIfInBounds_toArray, List.set_cons_zero, List.set_cons_succ]
  refine wpAnyH_done (by kernel_rfl) ?_ _
  go_wp2_with fail
  go_ret2
  exact ⟨s, ret2K HX.out.symm, HS, T7⟩
end Go.Proofs.YtdcomnnpnhinfaaDoor
/- CuspOfFraction: the program's side. -/
namespace Go.Proofs.YtdcomnnpnhinfaaDoor
open Go.ChangeShapes Go.WideShapes Go.ChangeAt Go.RowKit

theorem cssLen {n : Int} (h1 : 1 ≤ n) {N : Nat} (hN : (ln n).length = N) : ((cys n N).map srt).length = (cus n N).2 := by
  rw [List.length_map]
  exact (cys_is h1 N (by omega)).1
theorem cssRow {n : Int} (h1 : 1 ≤ n) {N c : Nat} (hN : (ln n).length = N) (hc : c < (cus n N).2) : ((cys n N).map srt).getD c [] = rowC (cus n N).1 c N := by
  rw [← cycle_row h1 hN hc]
  have hl : c < (cys n N).length := by rw [(cys_is h1 N (by omega)).1]; exact hc
  simp [List.getD, hl]
set_option maxHeartbeats 2000000 in
theorem implCf_bad (n p q : Int) (h : isF p q = false) (w : World) : Calls Tryd.prog 15 #[(.int .i64 n), (.agg #[.int .i64 p, .int .i64 q])] w fun e w' => e = .returned (.tuple #[(.int .i64 0), (.int .i64 1)]) ∧ Below w.heap.size w w' := by
  have H := Lib.hid h
  clear h
  have T0 := own_alloc (own_refl w) (.cells #[(.int .i64 p), (.int .i64 q)] 33)
  go_enter Tryd.func15, Tryd.ntmps15
  go_wp2_with fail
  refine (isF_isK false _ _ H.out _).mono ?_
  rintro e w2 ⟨rfl, hb2⟩
  go_wp2
  go_ret2
  exact ⟨rfl, own_trans T0 hb2⟩
set_option maxHeartbeats 2000000 in
theorem implCf_no (n p q : Int) (h : isF p q = true) (hn : inR n 1 60 = false) (w : World) : Calls Tryd.prog 15 #[(.int .i64 n), (.agg #[.int .i64 p, .int .i64 q])] w fun e w' => e = .returned (.tuple #[(.int .i64 0), (.int .i64 2)]) ∧ Below w.heap.size w w' := by
  have H := Lib.hid h
  have HN := Lib.hid (fun w => implCu_no n hn w)
  clear h hn
  have T0 := own_alloc (own_refl w) (.cells #[(.int .i64 p), (.int .i64 q)] 33)
  go_enter Tryd.func15, Tryd.ntmps15
  go_wp2_with fail
  refine (isF_isK true _ _ H.out _).mono ?_
  rintro e w2 ⟨rfl, hb2⟩
  go_wp2_with fail
  refine (HN.out _).mono ?_
  rintro e w3 ⟨v3, rfl, G3, hb3⟩
  go_wp2
  go_ret2
  exact ⟨rfl, own_trans (own_trans T0 hb2) hb3⟩
set_option maxRecDepth 100000 in
set_option maxHeartbeats 8000000 in
theorem implCf_yes (n p q : Int) (h : isF p q = true) (hn : inR n 1 60 = true) (N : Nat) (hN : (ln n).length = N) (w : World) (hid : Idn w) : Calls Tryd.prog 15 #[(.int .i64 n), (.agg #[.int .i64 p, .int .i64 q])] w fun e w' => ∃ s, e = .returned (.tuple #[(.int .i64 (cuspK n N q s)), (.int .i64 0)]) ∧ Hid (Sec p q s) ∧ Below w.heap.size w w' := by
  have hn' : 1 ≤ n ∧ n ≤ 60 := of_decide_eq_true hn
  obtain ⟨hp, hq0, hq1, hg, hor⟩ := of_decide_eq_true h
  have hN0 : 0 < N := by
    obtain ⟨K, hK, _⟩ := nrm_in hn'.1 (show isP n 0 1 = true by simp [isP])
    omega
  have H := Lib.hid h
  have HB := Lib.hid hn'
  have HNL := Lib.hid hN
  have HNb : Hid (N ≤ 3600) := Lib.hid (by rw [← hN]; exact ln_len hn'.2)
  have HID := Lib.hid hid
  have HU := Lib.hid (fun w => implCu_yes n hn N hN hN0 w)
  have HL := Lib.hid (fun w => levelOf_own n hn'.1 hn'.2 w)
  have HT : Hid (∀ w, Idn w → Calls Tryd.prog 43 #[(.agg #[.int .i64 p, .int .i64 q])] w fun e w' => ∃ r s : Int, e = .returned (.agg #[.int .i64 p, .int .i64 r, .int .i64 q, .int .i64 s]) ∧ Hid (isM p r q s = true ∧ Sec p q s) ∧ Below w.heap.size w w') := Lib.hid (fun w hw => by
    by_cases e : q = 0
    · subst e
      have e1 : p = 1 := by omega
      subst e1
      refine (matrixTo_inf 1 w hw).mono ?_
      rintro e w' ⟨rfl, hb⟩
      exact ⟨0, 1, rfl, Lib.hid ⟨by decide, ⟨by simp, fun _ => rfl, by unfold Ent; omega⟩⟩, hb⟩
    · refine (matrixTo_yes p q h (by omega) w).mono ?_
      rintro e w' ⟨r, s, rfl, hs, hb⟩
      exact ⟨r, s, rfl, Lib.hid ⟨decide_eq_true ⟨hp, hs.out.2.1, by unfold Ent; omega, hs.out.2.2, by have := hs.out.1; rw [Int.mul_comm r q]; omega⟩, ⟨⟨r, by have := hs.out.1; omega⟩, fun e2 => absurd e2 e, hs.out.2.2⟩⟩, hb⟩)
  have HK := Lib.hid (fun r s (hm : isM p r q s = true) (hs : Sec p q s) gu ou cu w hC => cosetOf_is n p r q s hn'.1 hn'.2 hm (kOf n q s) (kOf_spec hn'.1 (sec_pair hs)).1 (kOf_spec hn'.1 (sec_pair hs)).2 gu ou cu w hC)
  clear h hn hn' hN hid hp hq0 hq1 hg hor
  have B0 : Box (w.alloc (.cells #[(.int .i64 p), (.int .i64 q)] 33)) w.heap.size [.int .i64 p, .int .i64 q] := Box.new _ _ _
  have T0 := own_alloc (own_refl w) (.cells #[(.int .i64 p), (.int .i64 q)] 33)
  go_enter Tryd.func15, Tryd.ntmps15
  go_wp2_with fail
  refine (isF_isK true _ _ H.out _).mono ?_
  rintro e w2 ⟨rfl, hb2⟩
  have B2 := B0.below hb2
  have T2 := own_trans T0 hb2
  go_wp2_with fail
  refine (HU.out _).mono ?_
  rintro e w3 ⟨v3, rfl, G3, hb3⟩
  have B3 := B2.below hb3
  have T3 := own_trans T2 hb3
  clear B0 T0 B2 T2 hb2 hb3
  go_upto_region 6 with fail
  obtain ⟨-, c0, c1, -, -⟩ := B3.two
  go_cut [8] (fun v wx => ∃ (ga : Nat) (s : Int), v = .pointer (some ⟨ga, 0, none⟩) ∧ Box wx ga [(.int .i64 ((kOf n q s : Int)))] ∧ Hid (Sec p q s) ∧ Below w3.heap.size w3 wx)
  case first =>
    refine wp_region_held_drew (S := fun w' => w'.cell? ⟨w.heap.size, 0, none⟩ = some (.int .i64 p) ∧ w'.cell? ⟨w.heap.size, 1, none⟩ = some (.int .i64 q)) (by kernel_rfl) ⟨c0, c1⟩ (fun hHeld => ?_)
    have T : Below w3.heap.size w3 w3.drew := own_drew (own_refl w3)
    refine wpAnyH_take (i := 0) (oi := _) (v := (.int .i64 n)) rfl (by kernel_rfl) (by kernel_rfl) (by kernel_rfl) (fun _ _ _ h => h) (Or.inl ⟨by rfl, fun w hSw => by obtain ⟨_, _⟩ := hSw; go_simp⟩) (by assumption) ?_
    simp only [Act.put, List.setIfInBounds_toArray]
    refine wpAnyH_take (i := 2) (oi := _) (v := (.agg #[.int .i64 p, .int .i64 q])) rfl (by kernel_rfl) (by kernel_rfl) (by kernel_rfl) (fun _ _ _ h => h) (Or.inl ⟨by rfl, fun w hSw => by obtain ⟨_, _⟩ := hSw; go_simp⟩) (by assumption) ?_
    simp only [Act.put]
    clear c0 c1 hHeld
    refine wpAnyH_ready (rs := [1, 5]) (by kernel_rfl) (by simp) ?_
    refine AllReadyH.cons (o := _) rfl (fun KK hK => ?_) ?_
    · go_simp
      refine (HL.out _).mono ?_
      rintro e w4 ⟨gu, ou, cu, rfl, hgu, C, hb4⟩
      have T := own_trans T hb4
      clear hb4
      obtain ⟨-, k0, k1, -, -⟩ := (B3.below T).two
      refine hK.out _ _ ⟨k0, k1⟩ (fun _ => ?_)
      clear hK KK k0 k1
      try simp only [Act.put, List.setIfInBounds_toArray, List.set_cons_zero, List.set_cons_succ]
      refine wpAnyH_ready (rs := [3, 5]) (by kernel_rfl) (by simp) ?_
      refine AllReadyH.cons (o := _) rfl (fun KK hK => ?_) ?_
      · go_simp
        refine (HT.out _ (Rd.below HID.out (own_trans T3 T))).mono ?_
        rintro e w5 ⟨r, s, rfl, HS, hb5⟩
        have T := own_trans T hb5
        have C := C.low hb5 C.1
        clear hb5
        obtain ⟨-, k0, k1, -, -⟩ := (B3.below T).two
        refine hK.out _ _ ⟨k0, k1⟩ (fun _ => ?_)
        clear hK KK k0 k1
        try simp only [Act.put, List.setIfInBounds_toArray, List.set_cons_zero, List.set_cons_succ]
        refine wpAnyH_ready (rs := [4, 5]) (by kernel_rfl) (by simp) ?_
        refine AllReadyH.cons (o := _) rfl (fun KK hK => ?_) ?_
        · go_simp
          refine (HK.out r s HS.out.1 HS.out.2 _ _ _ _ C).mono ?_
          rintro e w6 ⟨rfl, hb6⟩
          have T := own_trans T hb6
          have HS2 : Hid (Sec p q s) := Lib.hid HS.out.2
          clear hb6 C
          obtain ⟨-, k0, k1, -, -⟩ := (B3.below T).two
          refine hK.out _ _ ⟨k0, k1⟩ (fun _ => ?_)
          clear hK KK k0 k1
          try simp only [Act.put, List.setIfInBounds_toArray, List.set_cons_zero, List.set_cons_succ]
          refine wpAnyH_ready (rs := [5]) (by kernel_rfl) (by simp) ?_
          refine AllReadyH.cons (o := _) rfl (fun KK hK => ?_) ?_
          · go_simp
            have A : Box (w6.alloc (.cells #[(.int .i64 0)] 2)) w6.heap.size [(.int .i64 0)] := Box.new _ _ _
            have lz : w3.heap.size ≤ w6.heap.size := T.size
            have T6 := T
            have T := own_alloc T (.cells #[(.int .i64 0)] 2)
            obtain ⟨-, a0, b0⟩ := A.one
            obtain ⟨-, k0, k1, -, -⟩ := (B3.below T).two
            refine hK.out _ _ ⟨k0, k1⟩ (fun _ => ?_)
            clear hK KK k0 k1
            try simp only [Act.put, List.setIfInBounds_toArray, List.set_cons_zero, List.set_cons_succ]
            refine wpAnyH_ready (rs := [6]) (by kernel_rfl) (by simp) ?_
            refine AllReadyH.cons (o := _) rfl (fun KK hK => ?_) ?_
            · go_simp
              have T := own_alloc T6 (.cells #[(.int .i64 ((kOf n q s : Int)))] 2)
              have A : Box (w6.alloc (.cells #[(.int .i64 ((kOf n q s : Int)))] 2)) w6.heap.size [(.int .i64 ((kOf n q s : Int)))] := Box.new _ _ _
              obtain ⟨-, k0, k1, -, -⟩ := (B3.below T).two
              refine hK.out _ _ ⟨k0, k1⟩ (fun _ => ?_)
              clear hK KK k0 k1
              try simp only [Act.put, List.setIfInBounds_toArray, List.set_cons_zero, List.set_cons_succ]
              refine wpAnyH_done (by kernel_rfl) ?_ _
              go_wp2_with fail
              go_meet
              exact ⟨_, s, rfl, A, HS2, T⟩
            exact AllReadyH.nil
          exact AllReadyH.nil
        refine AllReadyH.cons (o := _) rfl (fun KK hK => ?_) ?_
        · go_simp
          have A : Box (w5.alloc (.cells #[(.int .i64 0)] 2)) w5.heap.size [(.int .i64 0)] := Box.new _ _ _
          have lz : w3.heap.size ≤ w5.heap.size := T.size
          have C := C.low (own_alloc (own_refl w5) (.cells #[(.int .i64 0)] 2)) C.1
          have T := own_alloc T (.cells #[(.int .i64 0)] 2)
          obtain ⟨-, k0, k1, -, -⟩ := (B3.below T).two
          refine hK.out _ _ ⟨k0, k1⟩ (fun _ => ?_)
          clear hK KK k0 k1
          try simp only [Act.put, List.setIfInBounds_toArray, List.set_cons_zero, List.set_cons_succ]
          refine wpAnyH_ready (rs := [4]) (by kernel_rfl) (by simp) ?_
          refine AllReadyH.cons (o := _) rfl (fun KK hK => ?_) ?_
          · go_simp
            refine (HK.out r s HS.out.1 HS.out.2 _ _ _ _ C).mono ?_
            rintro e w6 ⟨rfl, hb6⟩
            have T := own_trans T hb6
            have HS2 : Hid (Sec p q s) := Lib.hid HS.out.2
            have A := A.below hb6
            clear hb6 C
            obtain ⟨-, a0, b0⟩ := A.one
            obtain ⟨-, k0, k1, -, -⟩ := (B3.below T).two
            refine hK.out _ _ ⟨k0, k1⟩ (fun _ => ?_)
            clear hK KK k0 k1
            try simp only [Act.put, List.setIfInBounds_toArray, List.set_cons_zero, List.set_cons_succ]
            refine wpAnyH_ready (rs := [6]) (by kernel_rfl) (by simp) ?_
            refine AllReadyH.cons (o := _) rfl (fun KK hK => ?_) ?_
            · go_simp
              have T := own_setCell T (p := ⟨w5.heap.size, 0, none⟩) lz (.int .i64 ((kOf n q s : Int)))
              have A := A.set 0 (by simp) (.int .i64 ((kOf n q s : Int)))
              simp only [List.set_cons_zero] at A
              obtain ⟨-, k0, k1, -, -⟩ := (B3.below T).two
              refine hK.out _ _ ⟨k0, k1⟩ (fun _ => ?_)
              clear hK KK k0 k1
              try simp only [Act.put, List.setIfInBounds_toArray, List.set_cons_zero, List.set_cons_succ]
              refine wpAnyH_done (by kernel_rfl) ?_ _
              go_wp2_with fail
              go_meet
              exact ⟨_, s, rfl, A, HS2, T⟩
            exact AllReadyH.nil
          exact AllReadyH.nil
        exact AllReadyH.nil
      refine AllReadyH.cons (o := _) rfl (fun KK hK => ?_) ?_
      · go_simp
        have A : Box (w4.alloc (.cells #[(.int .i64 0)] 2)) w4.heap.size [(.int .i64 0)] := Box.new _ _ _
        have lz : w3.heap.size ≤ w4.heap.size := T.size
        have C := C.low (own_alloc (own_refl w4) (.cells #[(.int .i64 0)] 2)) C.1
        have T := own_alloc T (.cells #[(.int .i64 0)] 2)
        obtain ⟨-, k0, k1, -, -⟩ := (B3.below T).two
        refine hK.out _ _ ⟨k0, k1⟩ (fun _ => ?_)
        clear hK KK k0 k1
        try simp only [Act.put, List.setIfInBounds_toArray, List.set_cons_zero, List.set_cons_succ]
        refine wpAnyH_ready (rs := [3]) (by kernel_rfl) (by simp) ?_
        refine AllReadyH.cons (o := _) rfl (fun KK hK => ?_) ?_
        · go_simp
          refine (HT.out _ (Rd.below HID.out (own_trans T3 T))).mono ?_
          rintro e w5 ⟨r, s, rfl, HS, hb5⟩
          have T := own_trans T hb5
          have C := C.low hb5 C.1
          have A := A.below hb5
          clear hb5
          obtain ⟨-, k0, k1, -, -⟩ := (B3.below T).two
          refine hK.out _ _ ⟨k0, k1⟩ (fun _ => ?_)
          clear hK KK k0 k1
          try simp only [Act.put, List.setIfInBounds_toArray, List.set_cons_zero, List.set_cons_succ]
          refine wpAnyH_ready (rs := [4]) (by kernel_rfl) (by simp) ?_
          refine AllReadyH.cons (o := _) rfl (fun KK hK => ?_) ?_
          · go_simp
            refine (HK.out r s HS.out.1 HS.out.2 _ _ _ _ C).mono ?_
            rintro e w6 ⟨rfl, hb6⟩
            have T := own_trans T hb6
            have HS2 : Hid (Sec p q s) := Lib.hid HS.out.2
            have A := A.below hb6
            clear hb6 C
            obtain ⟨-, a0, b0⟩ := A.one
            obtain ⟨-, k0, k1, -, -⟩ := (B3.below T).two
            refine hK.out _ _ ⟨k0, k1⟩ (fun _ => ?_)
            clear hK KK k0 k1
            try simp only [Act.put, List.setIfInBounds_toArray, List.set_cons_zero, List.set_cons_succ]
            refine wpAnyH_ready (rs := [6]) (by kernel_rfl) (by simp) ?_
            refine AllReadyH.cons (o := _) rfl (fun KK hK => ?_) ?_
            · go_simp
              have T := own_setCell T (p := ⟨w4.heap.size, 0, none⟩) lz (.int .i64 ((kOf n q s : Int)))
              have A := A.set 0 (by simp) (.int .i64 ((kOf n q s : Int)))
              simp only [List.set_cons_zero] at A
              obtain ⟨-, k0, k1, -, -⟩ := (B3.below T).two
              refine hK.out _ _ ⟨k0, k1⟩ (fun _ => ?_)
              clear hK KK k0 k1
              try simp only [Act.put, List.setIfInBounds_toArray, List.set_cons_zero, List.set_cons_succ]
              refine wpAnyH_done (by kernel_rfl) ?_ _
              go_wp2_with fail
              go_meet
              exact ⟨_, s, rfl, A, HS2, T⟩
            exact AllReadyH.nil
          exact AllReadyH.nil
        exact AllReadyH.nil
      exact AllReadyH.nil
    refine AllReadyH.cons (o := _) rfl (fun KK hK => ?_) ?_
    · go_simp
      have A : Box (w3.drew.alloc (.cells #[(.int .i64 0)] 2)) w3.heap.size [(.int .i64 0)] := Box.new _ _ _
      have lz : w3.heap.size ≤ w3.heap.size := T.size
      have T := own_alloc T (.cells #[(.int .i64 0)] 2)
      obtain ⟨-, k0, k1, -, -⟩ := (B3.below T).two
      refine hK.out _ _ ⟨k0, k1⟩ (fun _ => ?_)
      clear hK KK k0 k1
      try simp only [Act.put, List.setIfInBounds_toArray, List.set_cons_zero, List.set_cons_succ]
      refine wpAnyH_ready (rs := [1]) (by kernel_rfl) (by simp) ?_
      refine AllReadyH.cons (o := _) rfl (fun KK hK => ?_) ?_
      · go_simp
        refine (HL.out _).mono ?_
        rintro e w4 ⟨gu, ou, cu, rfl, hgu, C, hb4⟩
        have T := own_trans T hb4
        have A := A.below hb4
        clear hb4
        obtain ⟨-, k0, k1, -, -⟩ := (B3.below T).two
        refine hK.out _ _ ⟨k0, k1⟩ (fun _ => ?_)
        clear hK KK k0 k1
        try simp only [Act.put, List.setIfInBounds_toArray, List.set_cons_zero, List.set_cons_succ]
        refine wpAnyH_ready (rs := [3]) (by kernel_rfl) (by simp) ?_
        refine AllReadyH.cons (o := _) rfl (fun KK hK => ?_) ?_
        · go_simp
          refine (HT.out _ (Rd.below HID.out (own_trans T3 T))).mono ?_
          rintro e w5 ⟨r, s, rfl, HS, hb5⟩
          have T := own_trans T hb5
          have C := C.low hb5 C.1
          have A := A.below hb5
          clear hb5
          obtain ⟨-, k0, k1, -, -⟩ := (B3.below T).two
          refine hK.out _ _ ⟨k0, k1⟩ (fun _ => ?_)
          clear hK KK k0 k1
          try simp only [Act.put, List.setIfInBounds_toArray, List.set_cons_zero, List.set_cons_succ]
          refine wpAnyH_ready (rs := [4]) (by kernel_rfl) (by simp) ?_
          refine AllReadyH.cons (o := _) rfl (fun KK hK => ?_) ?_
          · go_simp
            refine (HK.out r s HS.out.1 HS.out.2 _ _ _ _ C).mono ?_
            rintro e w6 ⟨rfl, hb6⟩
            have T := own_trans T hb6
            have HS2 : Hid (Sec p q s) := Lib.hid HS.out.2
            have A := A.below hb6
            clear hb6 C
            obtain ⟨-, a0, b0⟩ := A.one
            obtain ⟨-, k0, k1, -, -⟩ := (B3.below T).two
            refine hK.out _ _ ⟨k0, k1⟩ (fun _ => ?_)
            clear hK KK k0 k1
            try simp only [Act.put, List.setIfInBounds_toArray, List.set_cons_zero, List.set_cons_succ]
            refine wpAnyH_ready (rs := [6]) (by kernel_rfl) (by simp) ?_
            refine AllReadyH.cons (o := _) rfl (fun KK hK => ?_) ?_
            · go_simp
              have T := own_setCell T (p := ⟨w3.heap.size, 0, none⟩) lz (.int .i64 ((kOf n q s : Int)))
              have A := A.set 0 (by simp) (.int .i64 ((kOf n q s : Int)))
              simp only [List.set_cons_zero] at A
              obtain ⟨-, k0, k1, -, -⟩ := (B3.below T).two
              refine hK.out _ _ ⟨k0, k1⟩ (fun _ => ?_)
              clear hK KK k0 k1
              try simp only [Act.put, List.setIfInBounds_toArray, List.set_cons_zero, List.set_cons_succ]
              refine wpAnyH_done (by kernel_rfl) ?_ _
              go_wp2_with fail
              go_meet
              exact ⟨_, s, rfl, A, HS2, T⟩
            exact AllReadyH.nil
          exact AllReadyH.nil
        exact AllReadyH.nil
      exact AllReadyH.nil
    exact AllReadyH.nil
  case rest =>
    obtain ⟨ga, s, rfl, A, HS, T⟩ := hcut
    obtain ⟨K, hK, hKl⟩ := cuspK_lt HB.out.1 HNL.out (sec_pair HS.out)
    have hT : Below w.heap.size w wc := own_trans T3 T
    have HI := Lib.hid (cuspIdx_is v3 ((cys n N).map srt) (cus n N).2 K (cssLen HB.out.1 HNL.out) (by have := (cus_len n N).2; have := HNb.out; omega) (fun c hc => by rw [cssRow HB.out.1 HNL.out hc]; have := rowC_len (o := (cus n N).1) (c := (c : Int)) N; have := HNb.out; omega) hKl (kOf n q s) (by
      rw [cssRow HB.out.1 HNL.out hKl]
      exact rowC_mem.2 ⟨kOf n q s, rfl, by have := (kOf_spec HB.out.1 (sec_pair HS.out)).1; have := HNL.out; omega, hK⟩) (fun i hi hm => by
      rw [cssRow HB.out.1 HNL.out (by omega)] at hm
      obtain ⟨i2, e, _, h2⟩ := rowC_mem.1 hm
      have e2 : kOf n q s = i2 := by omega
      rw [← e2] at h2
      have h3 : cuspK n N q s = (i : Int) := h2
      rw [hK] at h3
      omega) _ ga wc (G3.own T) A)
    have HK2 := Lib.hid hK
    clear hK hKl
    go_wp2_with fail
    refine HI.out.mono ?_
    rintro e w9 ⟨rfl, hb9⟩
    go_wp2
    go_ret2
    exact ⟨s, ret2K HK2.out.symm, HS, own_trans hT hb9⟩
end Go.Proofs.YtdcomnnpnhinfaaDoor
/- The laws' helpers over fractions. -/
namespace Go.Proofs.YtdcomnnpnhinfaaDoor
open Go.ChangeShapes Go.WideShapes Go.ChangeAt Go.RowKit

set_option maxHeartbeats 400000 in
theorem toFraction_any (a b : Int) (w : World) :
    Calls Tryd.prog 14 #[(.agg #[.int .i64 a, .int .i64 b])] w fun e w' => e = .returned (.agg #[.int .i64 a, .int .i64 b]) ∧ Below w.heap.size w w' := by
  go_enter Tryd.func14, Tryd.ntmps14
  go_wp2
  go_rounds 3
  exact bodyPost_ret (v := (.agg #[.int .i64 a, .int .i64 b])) (by simp [results, Tryd.results14, go_sem]) rfl ⟨rfl, by repeat (first | with_reducible exact own_refl _ | with_reducible assumption | with_reducible apply own_alloc | with_reducible apply own_drewN | with_reducible apply own_drew | ((with_reducible refine own_setCell ?_ ?_ _); rotate_left; focus (first | (simp; done) | (simp; omega))) | (with_reducible (refine own_trans ?_ (by assumption))))⟩
end Go.Proofs.YtdcomnnpnhinfaaDoor
/- The walk of the law FnExactCuspOfFraction, where both sides answer alike. -/
namespace Go.Proofs.YtdcomnnpnhinfaaDoor
open Go.ChangeShapes Go.WideShapes Go.ChangeAt Go.RowKit

set_option maxHeartbeats 2000000 in
theorem lawCuspOfFraction_of (n0 a b : Int) (r00 : Int) (k : Int)
    (hs : ∀ w : World, Calls Tryd.prog 13 #[(.int .i64 n0), (.agg #[.int .i64 a, .int .i64 b])] w fun e w' => e = .returned (.tuple #[(.int .i64 r00), (.int .i64 k)]) ∧ Below w.heap.size w w')
    (hi : ∀ w : World, Idn w → Calls Tryd.prog 15 #[(.int .i64 n0), (.agg #[.int .i64 a, .int .i64 b])] w fun e w' => e = .returned (.tuple #[(.int .i64 r00), (.int .i64 k)]) ∧ Below w.heap.size w w') (w : World) (hid0 : Idn w) :
    Calls Tryd.prog 4 #[(.int .i64 n0), (.agg #[.int .i64 a, .int .i64 b])] w fun e w' => e = .returned (.bool true) ∧ Below w.heap.size w w' := by
  have HS := Lib.hid hs
  have HI := Lib.hid hi
  clear hs hi
  go_enter Tryd.func4, Tryd.ntmps4
  go_wp2_with fail
  refine (toFraction_any _ _ _).mono ?_
  rintro e w1 ⟨rfl, hb1⟩
  have Bw1_0 : Box w1 (w.heap.size) [.int .i64 a, .int .i64 b] := by refine Box.below ?_ hb1; repeat (first | with_reducible assumption | with_reducible exact Box.new _ _ _ | (with_reducible refine Box.newAt ?_ _ _; (simp; done)) | with_reducible apply Box.alloc | with_reducible apply Box.drewN | with_reducible apply Box.drew)
  obtain ⟨_, _, _, _, _⟩ := Bw1_0.two
  go_wp2_with fail
  refine (HS.out _).mono ?_
  rintro e w2 ⟨rfl, hb2⟩
  have Bw2_0 : Box w2 (w.heap.size) [.int .i64 a, .int .i64 b] := by refine Box.below ?_ hb2; repeat (first | with_reducible assumption | with_reducible exact Box.new _ _ _ | (with_reducible refine Box.newAt ?_ _ _; (simp; done)) | with_reducible apply Box.alloc | with_reducible apply Box.drewN | with_reducible apply Box.drew)
  obtain ⟨_, _, _, _, _⟩ := Bw2_0.two
  go_wp2_with fail
  refine (toFraction_any _ _ _).mono ?_
  rintro e w3 ⟨rfl, hb3⟩
  have T3 : Below w.heap.size w w3 := by repeat (first | with_reducible exact own_refl _ | with_reducible assumption | with_reducible apply own_alloc | with_reducible apply own_drewN | with_reducible apply own_drew | ((with_reducible refine own_setCell ?_ ?_ _); rotate_left; focus (first | (simp; done) | (simp; omega))) | (with_reducible (refine own_trans ?_ (by assumption))))
  have IX0 : Idn w3 := Rd.below hid0 T3
  go_wp2_with fail
  refine (HI.out _ IX0).mono ?_
  rintro e w4 ⟨rfl, hb4⟩
  go_wp2
  go_ret
  exact ⟨rfl, by repeat (first | with_reducible exact own_refl _ | with_reducible assumption | with_reducible apply own_alloc | with_reducible apply own_drewN | with_reducible apply own_drew | ((with_reducible refine own_setCell ?_ ?_ _); rotate_left; focus (first | (simp; done) | (simp; omega))) | (with_reducible (refine own_trans ?_ (by assumption))))⟩
/-- a second number below every fraction -/
theorem sec_some {p q : Int} (h : isF p q = true) : ∃ s, Sec p q s := by
  obtain ⟨hp, hq0, hq1, hg, hor⟩ := of_decide_eq_true h
  by_cases e : q = 0
  · subst e
    exact ⟨1, by have : p = 1 := by omega
                 subst this; simp, fun _ => rfl, by unfold Ent; omega⟩
  · obtain ⟨v, k, hk⟩ := inv_unit hg
    have h0 := Int.emod_nonneg v e
    have h1 := Int.emod_lt_of_pos v (show 0 < q by omega)
    have h2 := Int.mul_ediv_add_emod v q
    exact ⟨v % q, ⟨k - p * (v / q), by grind⟩, fun e2 => absurd e2 e, by unfold Ent; omega⟩
theorem lawCf_walk (n p q : Int) (_ : I64 n) (_ : I64 p) (_ : I64 q) (w : World) (hid : Idn w) : Calls Tryd.prog 4 #[(.int .i64 n), (.agg #[.int .i64 p, .int .i64 q])] w fun e w' => e = .returned (.bool true) ∧ Below w.heap.size w w' := by
  rcases h : isF p q with _ | _
  · exact lawCuspOfFraction_of n p q 0 1 (fun w => specCf_bad n p q h w) (fun w _ => implCf_bad n p q h w) w hid
  · rcases hn : inR n 1 60 with _ | _
    · exact lawCuspOfFraction_of n p q 0 2 (fun w => specCf_no n p q h hn w) (fun w _ => implCf_no n p q h hn w) w hid
    · obtain ⟨t, ht⟩ := sec_some h
      have h1 : 1 ≤ n := (of_decide_eq_true hn : 1 ≤ n ∧ n ≤ 60).1
      refine lawCuspOfFraction_of n p q (cuspK n (ln n).length q t) 0 (fun w => ?_) (fun w hw => ?_) w hid
      · refine (specCf_yes n p q h hn _ rfl w).mono ?_
        rintro e w' ⟨s, rfl, hs, hb⟩
        exact ⟨ret2K (sec_same h1 rfl hs.out ht), hb⟩
      · refine (implCf_yes n p q h hn _ rfl w hw).mono ?_
        rintro e w' ⟨s, rfl, hs, hb⟩
        exact ⟨ret2K (sec_same h1 rfl hs.out ht), hb⟩
end Go.Proofs.YtdcomnnpnhinfaaDoor
