/- CountSubgroups: the numbers of actions, and the program's side. -/
import Derived.Test.YtdcomnnpnhinfaaCgI
import Derived.Test.YtdcomnnpnhinfaaA
namespace Go.Proofs.Ytdcomnnpnhinfaa
open Go.ChangeShapes Go.WideShapes Go.ChangeAt Go.RowKit

theorem stp_acs (N : Nat) : stp acs N 0 = stp acs N 1 := by
  refine List.map_congr_left fun i _ => ?_
  by_cases h : i = 0
  · subst h
    rw [if_neg (by omega), if_pos (by omega)]
    rfl
  · rw [if_neg (by omega), if_neg (by omega)]
set_option maxRecDepth 100000 in
set_option maxHeartbeats 4000000 in
theorem countActions_is (N : Nat) (hN : N ≤ 12) (hN1 : 1 ≤ N) (w : World) : Calls Try.prog 26 #[(.int .i64 ((N : Int)))] w fun e w' => e = .returned (.int .i64 (acs N)) ∧ Below w.heap.size w w' := by
  have hmk : ∀ w : World, (Instr.makeSlice 46 (.int .i64 ((N : Int) + 1)) (.int .i64 ((N : Int) + 1))).run Try.prog w = .ok (.slice (some ⟨w.heap.size, 0, none⟩) (N + 1) (N + 1)) (w.alloc (.cells (Array.replicate (N + 1) (.int .i64 0)) 2)) := fun w => mk64 (N + 1) (by omega) w
  have HP := Lib.hid (fun w => countPairs_is N hN w)
  go_enter Try.func26, Try.ntmps26
  go_wp2_with fail
  refine (HP.out _).mono ?_
  rintro e w2 ⟨v, rfl, G, hb⟩
  obtain ⟨av, cv, e⟩ := G.shape
  subst e
  rw [stp_len] at G ⊢
  obtain ⟨gp, e, lp, up, -⟩ := G.cellsZ (by omega)
  subst e
  go_upto_region 3 with fail
  have GA : Gr (w2.alloc (.cells (Array.replicate (N + 1) (.int .i64 0)) 2)) w.heap.size (.slice (some ⟨w2.heap.size, 0, none⟩) (N + 1) (N + 1)) (stp acs (N + 1) 0) := by
    rw [stp_zero]
    exact Gr.lit0 rfl (by omega) (N + 1) (by omega)
  have GP := G.alloc (.cells (Array.replicate (N + 1) (.int .i64 0)) 2)
  have T := own_alloc hb (.cells (Array.replicate (N + 1) (.int .i64 0)) 2)
  have GA : Gr (w2.alloc (.cells (Array.replicate (N + 1) (.int .i64 0)) 2)) w.heap.size (.slice (some ⟨w2.heap.size, 0, none⟩) (N + 1) (N + 1)) (stp acs (N + 1) 1) := by
    rw [← stp_acs]
    exact GA
  obtain ⟨ga, hga⟩ : ∃ ga, w2.heap.size = ga := ⟨_, rfl⟩
  rw [hga] at GA up
  simp only [hga]
  have lz : w.heap.size ≤ ga := by omega
  generalize w2.alloc (.cells (Array.replicate (N + 1) (.int .i64 0)) 2) = w3 at *
  clear hga G hb hmk
  have n1 : ¬ ga = gp := by omega
  have n2 : ¬ gp = ga := by omega
  go_wp2_with fail
  go_loopw [5] (fun x wr => ∃ k : Nat, 1 ≤ k ∧ k ≤ N + 1 ∧ x = (.int .i64 ((k : Int))) ∧ Gr wr w.heap.size (.slice (some ⟨ga, 0, none⟩) (N + 1) (N + 1)) (stp acs (N + 1) k) ∧ Gr wr w.heap.size (.slice (some ⟨gp, 0, none⟩) (N + 1) cv) (stp prk (N + 1) (N + 1)) ∧ Below w.heap.size w wr) (fun x _ => N + 1 - (intOf x).toNat)
  case atStart => exact ⟨1, by omega, by omega, rfl, GA, GP, T⟩
  case round =>
    obtain ⟨k, hk1, hk, rfl, GA, GP, T⟩ := hrel
    by_cases hlt : k ≤ N
    · obtain ⟨z, hz⟩ : ∃ x, prk k = x := ⟨_, rfl⟩
      obtain ⟨c1, -⟩ := GP.at' (k := k) (by omega) ((stp_at (by omega) (by omega)).trans hz)
      obtain ⟨d1, f1⟩ := GA.at' (k := k) (by omega) (stp_out (Nat.le_refl _))
      have GB := GA.put' (k := k) (y := z) (stp_len _ _ _) (by omega)
      have GQ := GP.far' (p := ⟨ga, k, none⟩) n2 (.int .i64 z)
      have T2 := own_setCell T (p := ⟨ga, k, none⟩) lz (.int .i64 z)
      have E0 : (stp acs (N + 1) k).set k z = (stp acs (N + 1) k).set k (owk k 1) := by rw [← hz]; rfl
      rw [E0] at GB
      clear hz E0
      go_upto_region 8 with fail
      generalize wr.setCell ⟨ga, k, none⟩ (.int .i64 z) = wA at *
      clear c1 d1 f1 GA GP T
      go_wp2_with fail
      go_loopw [6, 7] (fun c x wr => ∃ j : Nat, 1 ≤ j ∧ j ≤ k ∧ x = (.int .i64 ((j : Int))) ∧ c = (.int .i64 (chw k j)) ∧ Gr wr w.heap.size (.slice (some ⟨ga, 0, none⟩) (N + 1) (N + 1)) ((stp acs (N + 1) k).set k (owk k j)) ∧ Gr wr w.heap.size (.slice (some ⟨gp, 0, none⟩) (N + 1) cv) (stp prk (N + 1) (N + 1)) ∧ Below w.heap.size w wr) (fun _ x _ => k - (intOf x).toNat)
      case atStart => exact ⟨1, by omega, by omega, rfl, rfl, GB, GQ, T2⟩
      case round =>
        obtain ⟨j, hj1, hj, rfl, rfl, GA, GP, T⟩ := hrel
        by_cases hlt2 : j < k
        · have W1 : IntKind.i64.wrap ((k : Int) - (j : Int)) = ((k - j : Nat) : Int) := (IntWalk.i64_in _ (by omega)).trans (by omega)
          have q1 := ch_bd k (by omega) j hlt2 hj1
          have q2 := ch_bd2 k (by omega) j hlt2 hj1
          have q3 := ch_at k (by omega) j hlt2 hj1
          have q4 := ow_bd k (by omega) j hlt2 hj1
          have b := t_bd j (by omega)
          have b1 := t_bd (k - j) (by omega)
          rw [show (k : Int) - (j : Int) = ((k - j : Nat) : Int) by omega] at q2 q3
          have hd : k - j < N + 1 := by omega
          obtain ⟨d, hd'⟩ : ∃ d, k - j = d := ⟨_, rfl⟩
          rw [hd'] at W1 q2 q3 b1 hd
          obtain ⟨c1, -⟩ := GA.at' (k := j) (by omega) ((set_at (by omega)).trans (stp_at (by omega) hlt2))
          obtain ⟨c2, f2⟩ := GA.at' (k := k) (by omega) (set_here (by rw [stp_len]; omega))
          obtain ⟨c3, -⟩ := GP.at' (k := d) hd (stp_at hd hd)
          have GB := GA.put' (k := k) (y := owk k (j + 1)) (by simp [stp_len]) (by omega)
          have GQ := GP.far' (p := ⟨ga, k, none⟩) n2 (.int .i64 (owk k (j + 1)))
          have T2 := own_setCell T (p := ⟨ga, k, none⟩) lz (.int .i64 (owk k (j + 1)))
          rw [List.set_set] at GB
          obtain ⟨o2, ho2⟩ : ∃ o, owk k (j + 1) = o := ⟨_, rfl⟩
          obtain ⟨h2, hh2⟩ : ∃ o, chw k (j + 1) = o := ⟨_, rfl⟩
          have HO := Lib.hid (And.intro ho2 hh2)
          rw [ho2] at q3 q4 GB T2 GQ
          rw [hh2] at q3
          clear ho2 hh2 hd'
          generalize owk k j = o at *
          generalize chw k j = c at *
          generalize acs j = a at *
          generalize prk d = p at *
          obtain ⟨ca, hca⟩ : ∃ x, c * a = x := ⟨_, rfl⟩
          rw [hca] at q1 q2 q3
          obtain ⟨cp, hcp⟩ : ∃ x, ca * p = x := ⟨_, rfl⟩
          rw [hcp] at q2 q3
          obtain ⟨cd, hcd⟩ : ∃ x, c * (d : Int) = x := ⟨_, rfl⟩
          rw [hcd] at q2 q3
          obtain ⟨q5, q6⟩ := q3
          have hb2 : 0 ≤ h2 ∧ h2 ≤ 10000 := by
            rw [q5]
            exact ⟨Int.tdiv_nonneg (by omega) (by omega), Int.le_trans (Int.tdiv_le_self _ (by omega)) (by omega)⟩
          have X1 : IntKind.i64.wrap (c * a) = ca := by rw [hca]; exact IntWalk.i64_in _ (by omega)
          have X2 : IntKind.i64.wrap (ca * p) = cp := by rw [hcp]; exact IntWalk.i64_in _ (by omega)
          have X3 : IntKind.i64.wrap (o - cp) = o2 := by rw [← q6]; exact IntWalk.i64_in _ (by omega)
          have X4 : IntKind.i64.wrap (c * (d : Int)) = cd := by rw [hcd]; exact IntWalk.i64_in _ (by omega)
          have X5 : IntKind.i64.wrap (cd.tdiv (j : Int)) = h2 := by rw [← q5]; exact IntWalk.i64_in _ (by omega)
          have Y1 := (wrapE _).symm.trans X1
          have Y2 := (wrapE _).symm.trans X2
          have Y3 := (wrapE _).symm.trans X3
          have Y4 := (wrapE _).symm.trans X4
          have Y5 := (wrapE _).symm.trans X5
          have X6 := q5.symm
          have hj0 : ¬ ((j : Int) = 0) := by omega
          have RB : Hid (1 ≤ j ∧ j < k ∧ k ≤ N) := Lib.hid (by omega)
          clear q1 q2 q4 q5 q6 hca hcp hcd b b1
          go_wp2
          go_region
          generalize wr.setCell ⟨ga, k, none⟩ (.int .i64 o2) = wB at *
          clear c1 c2 c3 f2 GA GP T
          go_wp2
          go_roundw
          case rel => exact ⟨j + 1, by omega, by omega, by go_num, by rw [HO.out.2], by rw [HO.out.1]; first | exact GB | exact GB.drew, by first | exact GQ | exact GQ.drew, by repeat (first | with_reducible exact own_refl _ | with_reducible assumption | with_reducible apply own_alloc | with_reducible apply own_drewN | with_reducible apply own_drew | ((with_reducible refine own_setCell ?_ ?_ _); rotate_left; focus (first | (simp; done) | (simp; omega))) | (with_reducible (refine own_trans ?_ (by assumption))))⟩
          case measure => simp [intOf]; omega
        · obtain rfl : j = k := by omega
          have E : (stp acs (N + 1) j).set j (owk j j) = stp acs (N + 1) (j + 1) := by rw [ow_end j (by omega) hj1, stp_set]
          rw [E] at GA
          clear E hlt2
          go_wp2
          go_roundw
          case rel => exact ⟨j + 1, by omega, by omega, by go_num, GA, GP, T⟩
          case measure => simp [intOf]; omega
    · obtain rfl : k = N + 1 := by omega
      obtain ⟨c1, -⟩ := GA.at' (k := N) (by omega) (stp_at (by omega) (by omega))
      clear hlt
      go_wp2
      go_ret
      exact ⟨rfl, T⟩
set_option maxHeartbeats 2000000 in
theorem implSub_no (n : Int) (hn : inR n 1 12 = false) (w : World) : Calls Try.prog 13 #[(.int .i64 n)] w fun e w' => e = .returned (.tuple #[(.int .i64 0), (.int .i64 2)]) ∧ Below w.heap.size w w' := by
  have hn' : ¬ (1 ≤ n ∧ n ≤ 12) := of_decide_eq_false hn
  clear hn
  go_enter Try.func13, Try.ntmps13
  by_cases h1 : n < 1
  · clear hn'
    go_wp2
    go_ret2
    exact ⟨rfl, by repeat (first | with_reducible exact own_refl _ | with_reducible assumption | with_reducible apply own_alloc | with_reducible apply own_drewN | with_reducible apply own_drew | ((with_reducible refine own_setCell ?_ ?_ _); rotate_left; focus (first | (simp; done) | (simp; omega))) | (with_reducible (refine own_trans ?_ (by assumption))))⟩
  · have h2 : 12 < n := by omega
    clear hn'
    go_wp2
    go_ret2
    exact ⟨rfl, by repeat (first | with_reducible exact own_refl _ | with_reducible assumption | with_reducible apply own_alloc | with_reducible apply own_drewN | with_reducible apply own_drew | ((with_reducible refine own_setCell ?_ ?_ _); rotate_left; focus (first | (simp; done) | (simp; omega))) | (with_reducible (refine own_trans ?_ (by assumption))))⟩
set_option maxHeartbeats 2000000 in
theorem implSub_yes (N : Nat) (hN1 : 1 ≤ N) (hN : N ≤ 12) (w : World) : Calls Try.prog 13 #[(.int .i64 ((N : Int)))] w fun e w' => e = .returned (.tuple #[(.int .i64 (sbL.getD N 0)), (.int .i64 0)]) ∧ Below w.heap.size w w' := by
  have HA := Lib.hid (fun w => countActions_is N hN hN1 w)
  have HE := Lib.hid (dv_end N (by omega) hN1).1
  have h0 : ¬ ((N : Int) < 1) := by omega
  have h1 : ¬ (12 < (N : Int)) := by omega
  go_enter Try.func13, Try.ntmps13
  go_wp2_with fail
  refine (HA.out _).mono ?_
  rintro e w2 ⟨rfl, T⟩
  go_wp2_with fail
  go_loopw [4, 5] (fun c x wr => ∃ k : Nat, 2 ≤ k ∧ (k ≤ N ∨ N = 1 ∧ k = 2) ∧ x = (.int .i64 ((k : Int))) ∧ c = (.int .i64 (dvk N k)) ∧ Below w.heap.size w wr) (fun _ x _ => N - (intOf x).toNat)
  case atStart => exact ⟨2, by omega, by omega, rfl, rfl, T⟩
  case round =>
    obtain ⟨k, hk2, hk, rfl, rfl, T⟩ := hrel
    by_cases hlt : k < N
    · have q := dv_at N (by omega) k hlt hk2
      obtain ⟨d2, hd2⟩ : ∃ d, dvk N (k + 1) = d := ⟨_, rfl⟩
      have HD := Lib.hid hd2
      rw [hd2] at q
      clear hd2
      generalize dvk N k = d at *
      obtain ⟨q1, q2, q3⟩ := q
      have hb2 : 0 ≤ d2 ∧ d2 ≤ 30496435200 := by
        rw [q1]
        exact ⟨Int.tdiv_nonneg (by omega) (by omega), Int.le_trans (Int.tdiv_le_self _ (by omega)) (by omega)⟩
      have X5 : IntKind.i64.wrap (d.tdiv (k : Int)) = d2 := by rw [← q1]; exact IntWalk.i64_in _ (by omega)
      have Y5 := (wrapE _).symm.trans X5
      have X6 := q1.symm
      have hj0 : ¬ ((k : Int) = 0) := by omega
      have RB : Hid (2 ≤ k ∧ k < N) := Lib.hid (by omega)
      clear q1 q2 q3
      go_wp2
      go_roundw
      case rel => exact ⟨k + 1, by omega, by omega, by go_num, by rw [HD.out], T⟩
      case measure => simp [intOf]; omega
    · have E : dvk N k = sbL.getD N 0 := by
        rcases hk with h | ⟨h, h'⟩
        · obtain rfl : k = N := by omega
          exact HE.out
        · subst h; subst h'; rfl
      rw [E]
      have hk' : Hid (k ≤ N ∨ N = 1 ∧ k = 2) := Lib.hid hk
      clear E hk
      go_wp2
      go_ret2
      exact ⟨rfl, T⟩
end Go.Proofs.Ytdcomnnpnhinfaa
