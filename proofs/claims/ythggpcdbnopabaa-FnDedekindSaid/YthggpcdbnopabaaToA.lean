/- addUp over squares of sums; TotalOf on both sides, and the walk of its law. -/
import Derived.Test.YthggpcdbnopabaaTot
import Derived.Test.YthggpcdbnopabaaLoTotalOf
namespace Go.Proofs.Ythggpcdbnopabaa
open Go.ChangeShapes Go.WideShapes Go.ChangeAt Go.RowKit

theorem sqD_step {k u q : Int} {us : List Int} {j : Nat} (hj : j < us.length) (hu : us.getD j 0 = u) (hq : ds u k = q) : sqD k (us.take (j + 1)) = sqD k (us.take j) + q * q := by
  have e : us[j] = u := by rw [← hu]; simp [List.getD, List.getElem?_eq_getElem hj]
  rw [List.take_succ_eq_append_getElem hj, sqD_append, e]
  simp [sqD, hq]
theorem take_gcd {k : Int} {us : List Int} (h : ∀ u ∈ us, Int.gcd u k = 1) (j : Nat) : ∀ u ∈ us.take j, Int.gcd u k = 1 := fun u hu => h u (List.mem_of_mem_take hu)
theorem take_bd {k : Int} (h1 : 1 ≤ k) (h2 : k ≤ 12) {us : List Int} (hl : us.length ≤ 12) (h : ∀ u ∈ us, Int.gcd u k = 1) (j : Nat) : 0 ≤ sqD k (us.take j) ∧ sqD k (us.take j) ≤ 36000000 := by
  have h3 := sqD_bd h1 h2 (us.take j) (take_gcd h j)
  have h4 : (us.take j).length ≤ 12 := by rw [List.length_take]; omega
  omega
set_option maxHeartbeats 2000000 in
theorem addUp_squares (k s x y : Int) (us : List Int) (N : Nat) (hN : us.length = N) (hN12 : N ≤ 12) (hs : 4 * k * k = s) (h1 : 1 ≤ k) (h2 : k ≤ 12) (hU : ∀ u ∈ us, Int.gcd u k = 1)
    (hx : lowP (sqD k us) (s * s) = x) (hy : lowQ (sqD k us) (s * s) = y) (ad : Option Addr) (cap L U : Nat) (w : World) (hF : SlF w L U (.slice ad N cap) N (smL k us)) :
    Calls Try.prog 40 #[.iface 55 (.agg #[(.int .i64 s), .slice ad N cap])] w fun e w' => e = .returned (.agg #[.int .i64 x, .int .i64 y]) ∧ Below w.heap.size w w' := by
  have hkk := prod_small (h := k) (i := k) (by omega) (by omega) (by omega) (by omega)
  have hkk2 : k * k ≤ 144 := Int.mul_le_mul h2 h2 (by omega) (by omega)
  have hkk1 : 0 < k * k := Int.mul_pos (by omega) (by omega)
  have hsm : 4 * k * k = 4 * (k * k) := Int.mul_assoc _ _ _
  have hs1 : 1 ≤ s ∧ s ≤ 600 := by omega
  have hss := prod_small (h := s) (i := s) (by omega) (by omega) (by omega) (by omega)
  have hss1 : 0 < s * s := Int.mul_pos (by omega) (by omega)
  have hbd := take_bd h1 h2 (by omega) hU us.length
  rw [List.take_length] at hbd
  have HL := Lib.hid (fun w => implLow_at (sqD k us) (s * s) x y hx hy (by unfold Mid; omega) (by unfold Mid; omega) (by omega) w)
  have HE := Lib.hid (And.intro hN (And.intro hs hU))
  have HF := Lib.hid hF
  obtain ⟨_, _⟩ := hs1
  clear hx hy hF hkk hkk2 hkk1 hsm hss hss1 hbd hN hs hU
  go_enter Try.func40, Try.ntmps40
  go_wp2_with fail
  refine (sqCount_is s ad N cap _).mono ?_
  rintro e w1 ⟨rfl, hb1⟩
  have T1 : Below w.heap.size w w1 := by repeat (first | with_reducible exact own_refl _ | with_reducible assumption | with_reducible apply own_alloc | with_reducible apply own_drewN | with_reducible apply own_drew | ((with_reducible refine own_setCell ?_ ?_ _); rotate_left; focus (first | (simp; done) | (simp; omega))) | (with_reducible (refine own_trans ?_ (by assumption))))
  have Z1 : Box w1 w.heap.size [.int .i64 0, .int .i64 0] := Box.below (Box.new _ _ _) hb1
  clear hb1
  go_wp2
  go_loopw [3, 7] (fun s x wr => ∃ (n : Nat) (t : Int), n ≤ N ∧ x = (.int .i64 ((n : Int))) ∧ s = (.int .i64 t) ∧ Hid (sqD k (us.take n) = t) ∧ Below w.heap.size w wr ∧ Box wr w.heap.size [.int .i64 0, .int .i64 0]) (fun _ x _ => N - (intOf x).toNat)
  case atStart => exact ⟨0, 0, Nat.zero_le _, rfl, rfl, Lib.hid (by simp [sqD]), T1, Z1⟩
  case round =>
    obtain ⟨n, t, hn, rfl, rfl, HS, T, Z⟩ := hrel
    have hb0 := take_bd h1 h2 (by have := HE.out.1; omega) HE.out.2.2 n
    rw [HS.out] at hb0
    obtain ⟨_, _⟩ := hb0
    by_cases hl : n < N
    · obtain ⟨hN, hs, hU⟩ := HE.out
      obtain ⟨u, hu⟩ : ∃ u, us.getD n 0 = u := ⟨_, rfl⟩
      have hug := hU u (hu ▸ mem_getD (by omega))
      obtain ⟨xf, hxf⟩ : ∃ x, lowP (ls u k) (12 * k) = x := ⟨_, rfl⟩
      obtain ⟨yf, hyf⟩ : ∃ y, lowQ (ls u k) (12 * k) = y := ⟨_, rfl⟩
      obtain ⟨q, hq⟩ : ∃ q, ds u k = q := ⟨_, rfl⟩
      have hat := smL_at k us n (by omega)
      rw [hu, hxf, hyf] at hat
      obtain ⟨hw1, hw2, hw3, hw4⟩ := whole_ds h1 hug hxf hyf
      rw [hs] at hw2 hw3 hw4
      rw [hq] at hw2
      have hqb := ds_bd h1 h2 hug
      rw [hq] at hqb
      have hst := sqD_step (k := k) (by omega : n < us.length) hu hq
      rw [HS.out] at hst
      have hb1 := take_bd h1 h2 (by omega) hU (n + 1)
      rw [hst] at hb1
      have hqq := sq_nn q
      have HT := Lib.hid hst
      obtain ⟨_, _, a', cap', ev, hc⟩ := HF.out
      obtain ⟨g, ea, _, hg, hcl⟩ := hc (by omega)
      injection ev with e1 e2 e3
      have ea' : ad = some ⟨g, 0, none⟩ := e1.trans ea
      have hgw : g < w.heap.size := by omega
      have c0 := (hcl (2 * n + 0) (by omega)).1
      have c1 := (hcl (2 * n + 1) (by omega)).1
      rw [hat.1] at c0
      rw [hat.2] at c1
      have HQ := Lib.hid (fun (w' : World) (hb : Below w.heap.size w w') => by
        have d0 : w'.cell? ⟨g, n * 2, none⟩ = some (.int .i64 xf) := by
          rw [hb.cell (p := ⟨g, n * 2, none⟩) hgw, Nat.mul_comm]; exact c0
        have d1 : w'.cell? ⟨g, n * 2 + 1, none⟩ = some (.int .i64 yf) := by
          rw [hb.cell (p := ⟨g, n * 2 + 1, none⟩) hgw, Nat.mul_comm]; exact c1
        exact sqTerm_is s xf yf _ q g N cap n hl hw1 rfl hw3 (by omega) hw2 hqb.1 hqb.2 w' d0 d1 (Nat.lt_of_lt_of_le hgw hb.size))
      subst ea'
      clear hN hs hU hu hug hxf hyf hq hat hw1 hw2 hw3 hw4 hqb hst hc hcl c0 c1 e1 e2 e3 ea
      obtain ⟨_, _⟩ := hb1
      go_wp2_with fail
      refine (HQ.out wr T).mono ?_
      rintro e w2 ⟨rfl, hb2⟩
      have T2 := own_trans T hb2
      have Z2 := Z.below hb2
      go_wp2
      go_roundw
      case rel => exact ⟨n + 1, t + q * q, hl, by go_num, by go_num, HT, T2, Z2⟩
      case measure => simp [intOf]; omega
    · obtain rfl : n = N := by omega
      have e1 : Hid (sqD k us = t) := Lib.hid (by rw [← HS.out, ← HE.out.1, List.take_length])
      go_wp2_with fail
      refine (sqDiv_is s (.slice ad n cap) (by omega) (by omega) _).mono ?_
      rintro e w2 ⟨rfl, hb2⟩
      have T2 := own_trans T hb2
      have Z2 := Z.below hb2
      rw [e1.out] at HL
      go_wp2_with fail
      refine (HL.out _).mono ?_
      rintro e w3 ⟨rfl, hb3⟩
      have T3 := own_trans T2 hb3
      have Z3 := Z2.below hb3
      obtain ⟨_, _, _, _, _⟩ := Z3.two
      go_wp2
      obtain ⟨_, d1, d2⟩ := Z3.reads2d (.int .i64 x) (.int .i64 y)
      exact bodyPost_ret (v := (.agg #[.int .i64 x, .int .i64 y])) (by simp [results, Try.results40, go_sem, d1, d2]) rfl ⟨rfl, by repeat (first | with_reducible exact own_refl _ | with_reducible assumption | with_reducible apply own_alloc | with_reducible apply own_drewN | with_reducible apply own_drew | ((with_reducible refine own_setCell ?_ ?_ _); rotate_left; focus (first | (simp; done) | (simp; omega))) | (with_reducible (refine own_trans ?_ (by assumption))))⟩
theorem cop12 {k : Int} {K : Nat} (hK : (K : Int) = k) (h2 : k ≤ 12) : (cop k K).length ≤ 12 := by
  have := cop_len k K; omega
set_option maxHeartbeats 1000000 in
theorem implTot_no (k : Int) (h : ¬ (1 ≤ k ∧ k ≤ 12)) (w : World) : Calls Try.prog 21 #[(.int .i64 k)] w fun e w' => e = .returned (.tuple #[(.agg #[.int .i64 0, .int .i64 0]), (.int .i64 2)]) ∧ Below w.heap.size w w' := by
  rcases (show k < 1 ∨ (¬ k < 1 ∧ 12 < k) by omega) with hn | ⟨hn, hn'⟩
  all_goals
    clear h
    go_enter Try.func21, Try.ntmps21
    go_wp2
    exact bodyPost_ret (v := .tuple #[(.agg #[.int .i64 0, .int .i64 0]), (.int .i64 2)]) (by simp [results, Try.results21, go_sem]) rfl ⟨rfl, by repeat (first | with_reducible exact own_refl _ | with_reducible assumption | with_reducible apply own_alloc | with_reducible apply own_drewN | with_reducible apply own_drew | ((with_reducible refine own_setCell ?_ ?_ _); rotate_left; focus (first | (simp; done) | (simp; omega))) | (with_reducible (refine own_trans ?_ (by assumption))))⟩
set_option maxHeartbeats 2000000 in
theorem implTot_yes (k x y : Int) (K : Nat) (hK : (K : Int) = k) (h1 : 1 ≤ k) (h2 : k ≤ 12) (hx : lowP (sqD k (cop k K)) (4 * k * k * (4 * k * k)) = x) (hy : lowQ (sqD k (cop k K)) (4 * k * k * (4 * k * k)) = y) (w : World) :
    Calls Try.prog 21 #[(.int .i64 k)] w fun e w' => e = .returned (.tuple #[(.agg #[.int .i64 x, .int .i64 y]), (.int .i64 0)]) ∧ Below w.heap.size w w' := by
  have h3 : ¬ k < 1 := by omega
  have h4 : ¬ 12 < k := by omega
  obtain ⟨N, hN⟩ : ∃ N, (cop k K).length = N := ⟨_, rfl⟩
  obtain ⟨s, hs⟩ : ∃ s, 4 * k * k = s := ⟨_, rfl⟩
  rw [hs] at hx hy
  have hN12 : N ≤ 12 := by have := cop12 hK h2; omega
  have HI := Lib.hid (fun w => implSums_yes k K N hK h1 (by omega) hN w)
  have HA := Lib.hid (fun ad cap L U w hF => addUp_squares k s x y (cop k K) N hN hN12 hs h1 h2 (cop_gcd k K) hx hy ad cap L U w hF)
  have hkk := prod_small (h := k) (i := k) (by omega) (by omega) (by omega) (by omega)
  have hsm : 4 * k * k = 4 * (k * k) := Int.mul_assoc _ _ _
  have e1 : IntKind.i64.wrap (4 * k) = 4 * k := IntWalk.i64_in _ (by omega)
  have e2 : IntKind.i64.wrap (4 * k * k) = s := by rw [hs]; exact IntWalk.i64_in _ (by omega)
  clear hK hN hs hx hy hkk hsm
  go_enter Try.func21, Try.ntmps21
  go_wp2_with fail
  refine (HI.out _).mono ?_
  rintro e w1 ⟨v, rfl, hF, hb1⟩
  have T1 : Below w.heap.size w w1 := by repeat (first | with_reducible exact own_refl _ | with_reducible assumption | with_reducible apply own_alloc | with_reducible apply own_drewN | with_reducible apply own_drew | ((with_reducible refine own_setCell ?_ ?_ _); rotate_left; focus (first | (simp; done) | (simp; omega))) | (with_reducible (refine own_trans ?_ (by assumption))))
  have Z1 : Box w1 w.heap.size [.int .i64 0, .int .i64 0] := Box.below (Box.new _ _ _) hb1
  clear hb1
  obtain ⟨_, _, ad, cap, rfl, _⟩ := id hF
  go_wp2_with fail
  refine (HA.out _ _ _ _ _ hF).mono ?_
  rintro e w2 ⟨rfl, hb2⟩
  have T2 := own_trans T1 hb2
  have Z2 := Z1.below hb2
  obtain ⟨_, _, _, _, _⟩ := Z2.two
  go_wp2
  obtain ⟨_, d1, d2⟩ := Z2.reads2d (.int .i64 x) (.int .i64 y)
  exact bodyPost_ret (v := .tuple #[(.agg #[.int .i64 x, .int .i64 y]), (.int .i64 0)]) (by simp [results, Try.results21, go_sem, d1, d2]) rfl ⟨rfl, by repeat (first | with_reducible exact own_refl _ | with_reducible assumption | with_reducible apply own_alloc | with_reducible apply own_drewN | with_reducible apply own_drew | ((with_reducible refine own_setCell ?_ ?_ _); rotate_left; focus (first | (simp; done) | (simp; omega))) | (with_reducible (refine own_trans ?_ (by assumption))))⟩

theorem specTot_no (k : Int) (h : inR k 1 12 = false) (w : World) : Calls Try.prog 22 #[(.int .i64 k)] w fun e w' => e = .returned (.tuple #[(.agg #[.int .i64 0, .int .i64 0]), (.int .i64 2)]) ∧ Below w.heap.size w w' := by
  have H := Lib.hid (fun w => l01In_is false k 1 12 h w)
  clear h
  go_enter Try.func22, Try.ntmps22
  go_wp2_with fail
  refine (H.out _).mono ?_
  rintro e w1 ⟨rfl, rfl⟩
  go_wp2
  exact bodyPost_ret (v := .tuple #[(.agg #[.int .i64 0, .int .i64 0]), (.int .i64 2)]) (by simp [results, Try.results22, go_sem]) rfl ⟨rfl, by repeat (first | with_reducible exact own_refl _ | with_reducible assumption | with_reducible apply own_alloc | with_reducible apply own_drewN | with_reducible apply own_drew | ((with_reducible refine own_setCell ?_ ?_ _); rotate_left; focus (first | (simp; done) | (simp; omega))) | (with_reducible (refine own_trans ?_ (by assumption))))⟩
theorem sqL_part {k : Int} (h1 : 1 ≤ k) (h2 : k ≤ 12) {j : Nat} (hj : j ≤ 12) : 0 ≤ sqL k (cop k j) ∧ sqL k (cop k j) ≤ 2400000 := by
  have h3 := sqL_bd h1 h2 (cop k j) (cop_gcd k j)
  have h4 := cop_len k j
  omega
set_option maxHeartbeats 4000000 in
theorem specTot_yes (k x y : Int) (K : Nat) (hK : (K : Int) = k) (h1 : 1 ≤ k) (h2 : k ≤ 12) (hx : lowP (sqL k (cop k K)) (144 * k * k) = x) (hy : lowQ (sqL k (cop k K)) (144 * k * k) = y) (w : World) :
    Calls Try.prog 22 #[(.int .i64 k)] w fun e w' => e = .returned (.tuple #[(.agg #[.int .i64 x, .int .i64 y]), (.int .i64 0)]) ∧ Below w.heap.size w w' := by
  have HI := Lib.hid (fun w => l01In_is true k 1 12 (decide_eq_true ⟨h1, h2⟩) w)
  have HK := Lib.hid hK
  have hK2 : K ≤ 12 := by omega
  obtain ⟨s, hs⟩ : ∃ s, 144 * k * k = s := ⟨_, rfl⟩
  rw [hs] at hx hy
  have hkk := prod_small (h := k) (i := k) (by omega) (by omega) (by omega) (by omega)
  have hkk1 : 0 < k * k := Int.mul_pos (by omega) (by omega)
  have hsm : 144 * k * k = 144 * (k * k) := Int.mul_assoc _ _ _
  have e1 : IntKind.i64.wrap (144 * k) = 144 * k := IntWalk.i64_in _ (by omega)
  have e2 : IntKind.i64.wrap (144 * k * k) = s := by rw [hs]; exact IntWalk.i64_in _ (by omega)
  have hfin := sqL_part h1 h2 hK2
  have HR := Lib.hid (fun w => specLow_at (sqL k (cop k K)) s x y hx hy (by unfold Mid; omega) (by unfold Mid; omega) (by omega) w)
  clear hK hx hy hs hkk hkk1 hsm hfin
  go_enter Try.func22, Try.ntmps22
  go_wp2_with fail
  refine (HI.out _).mono ?_
  rintro e w1 ⟨rfl, rfl⟩
  have Z0 : Box (w.alloc (.cells #[.int .i64 0, .int .i64 0] 27)) w.heap.size [.int .i64 0, .int .i64 0] := Box.new _ _ _
  have T0 := own_alloc (own_refl w) (.cells #[.int .i64 0, .int .i64 0] 27)
  go_wp2
  generalize w.alloc (.cells #[.int .i64 0, .int .i64 0] 27) = W at Z0 T0 ⊢
  go_loop [4, 5] (fun v x => ∃ (j : Nat) (t : Int), j ≤ K ∧ x = (.int .i64 ((j : Int) + 1)) ∧ v = (.int .i64 t) ∧ Hid (sqL k (cop k j) = t)) (fun _ x => (k + 1 - intOf x).toNat)
  case atStart => exact ⟨0, 0, Nat.zero_le _, by simp, rfl, Lib.hid rfl⟩
  case round =>
    obtain ⟨j, t, hj, rfl, rfl, HS⟩ := hrel
    obtain ⟨u, hu⟩ : ∃ u : Int, (j : Int) + 1 = u := ⟨_, rfl⟩
    have HU := Lib.hid hu
    have hu1 : 1 ≤ u ∧ u ≤ k + 1 := by have := HK.out; omega
    obtain ⟨_, _⟩ := hu1
    have hb0 := sqL_part h1 h2 (show j ≤ 12 by omega)
    rw [HS.out] at hb0
    obtain ⟨_, _⟩ := hb0
    rw [hu]
    by_cases hlt : u ≤ k
    · obtain ⟨g, hg⟩ : ∃ g : Int, ((Int.gcd u k : Nat) : Int) = g := ⟨_, rfl⟩
      have HD := Lib.hid (fun w => l01Gcd_is g u k hg (by unfold Mid; omega) (by unfold Mid; omega) w)
      by_cases h3 : g = 1
      · have hgu : Int.gcd u k = 1 := by omega
        subst h3
        have hcs := cop_yes hu hg
        have HL := Lib.hid (fun w => l07Sum_is k.toNat u k (by omega) (by omega) (by omega) (by unfold I64; omega) hgu w)
        have hsm := ls_small h1 h2 hgu
        obtain ⟨L, hL⟩ : ∃ L, ls u k = L := ⟨_, rfl⟩
        have hst : sqL k (cop k (j + 1)) = t + L * L := by
          rw [hcs, sqL_append, HS.out]; simp [sqL, hL]
        have HT := Lib.hid hst
        rw [hL] at HL hsm
        have hLL := sq_nn L
        have hLb := Dd.mul_bd (K := 432) (by omega) hsm.1 hsm.2 hsm.1 hsm.2
        obtain ⟨_, _⟩ := hLb
        clear hg hu hgu hcs hL hsm hst
        go_wp2_with fail
        refine (HD.out _).mono ?_
        rintro e w1 ⟨rfl, rfl⟩
        go_wp2_with (go_at_call 33; refine (HL.out _).mono ?_; rintro e w1 ⟨rfl, rfl⟩)
        go_round
        case rel => exact ⟨j + 1, t + L * L, by have := HU.out; have := HK.out; omega, by have := HU.out; simp; omega, by go_num, HT⟩
        case measure => simp [intOf]; omega
      · have hcs := cop_no hu (fun h => h3 (hg.symm.trans h))
        have HT : Hid (sqL k (cop k (j + 1)) = t) := Lib.hid (by rw [hcs, HS.out])
        have h3' : (g == 1) = false := by simp [h3]
        clear hg hu hcs
        go_wp2_with fail
        refine (HD.out _).mono ?_
        rintro e w1 ⟨rfl, rfl⟩
        go_wp2
        go_round
        case rel => exact ⟨j + 1, t, by have := HU.out; have := HK.out; omega, by have := HU.out; simp; omega, rfl, HT⟩
        case measure => simp [intOf]; omega
    · have hE : j = K := by have := HK.out; omega
      have hT := HS.out
      rw [hE] at hT
      rw [hT] at HR
      clear hu hT hE
      go_wp2_with fail
      refine (HR.out _).mono ?_
      rintro e w2 ⟨rfl, hb2⟩
      have T2 := own_trans T0 hb2
      have Z2 := Z0.below hb2
      obtain ⟨_, _, _, _, _⟩ := Z2.two
      go_wp2
      obtain ⟨_, d1, d2⟩ := Z2.reads2d (.int .i64 x) (.int .i64 y)
      exact bodyPost_ret (v := .tuple #[(.agg #[.int .i64 x, .int .i64 y]), (.int .i64 0)]) (by simp [results, Try.results22, go_sem, d1, d2]) rfl ⟨rfl, by repeat (first | with_reducible exact own_refl _ | with_reducible assumption | with_reducible apply own_alloc | with_reducible apply own_drewN | with_reducible apply own_drew | ((with_reducible refine own_setCell ?_ ?_ _); rotate_left; focus (first | (simp; done) | (simp; omega))) | (with_reducible (refine own_trans ?_ (by assumption))))⟩
theorem tot_eq {k : Int} (h1 : 1 ≤ k) (K : Nat) : lowP (sqD k (cop k K)) (4 * k * k * (4 * k * k)) = lowP (sqL k (cop k K)) (144 * k * k) ∧ lowQ (sqD k (cop k K)) (4 * k * k * (4 * k * k)) = lowQ (sqL k (cop k K)) (144 * k * k) := by
  have hq := sq_eq h1 (cop k K) (cop_gcd k K)
  have hkk : 0 < k * k := Int.mul_pos (by omega) (by omega)
  have h4 : 4 * k * k = 4 * (k * k) := Int.mul_assoc _ _ _
  have h5 : 144 * k * k = 144 * (k * k) := Int.mul_assoc _ _ _
  have h6 : 0 < 4 * k * k * (4 * k * k) := Int.mul_pos (by omega) (by omega)
  exact low_eq (p := sqD k (cop k K)) (q := 4 * k * k * (4 * k * k)) (p' := sqL k (cop k K)) (q' := 144 * k * k) h6 (by omega) (by
    rw [h4, h5]
    generalize k * k = z at *
    generalize sqD k (cop k K) = A at *
    generalize sqL k (cop k K) = B at *
    grind)
end Go.Proofs.Ythggpcdbnopabaa
