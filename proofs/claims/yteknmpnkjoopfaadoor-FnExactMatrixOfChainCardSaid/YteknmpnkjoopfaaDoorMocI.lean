/- impl.MatrixOfChain: contract. -/
import Derived.Test.YteknmpnkjoopfaaDoorMocM
namespace Go.Proofs.YteknmpnkjoopfaaDoor
open Go.ChangeShapes Go.WideShapes Go.ChangeAt Go.RowKit

theorem GrA.drew {w : World} {L n : Nat} {v : Value} {xs : List Int} (h : GrA w L v n xs) : GrA w.drew L v n xs := h
theorem rd4' {w : World} {g : Nat} {x0 x1 x2 x3 : Value} (h : Rd w g [x0, x1, x2, x3]) : w.cell? ⟨g, 0, none⟩ = some x0 ∧ w.cell? ⟨g, 1, none⟩ = some x1 ∧ w.cell? ⟨g, 2, none⟩ = some x2 ∧ w.cell? ⟨g, 3, none⟩ = some x3 := h.four.2
theorem flat_two (ms : List Mat) (m n : Mat) : flat (ms ++ [m, n]) = flat ms ++ [m.a, m.b, m.c, m.d, n.a, n.b, n.c, n.d] := by simp [flat]
set_option maxRecDepth 1000000 in
set_option maxHeartbeats 4000000 in
theorem implMoc_many (s : Int) (hs : s = 1 ∨ s = -1) (b off m : Nat) (xs : List Int) (hm1 : 1 ≤ m) (hn : xs.length = m + 1) (hn2 : m + 1 ≤ 100) (hent : allW xs 1000000000 = true) (r : Mat) (kd : Int) (hPA : PA (chPre s xs (m + 1)) r kd) (w : World) (hid : Idn w) (hmx : MxS w)
    (hb : b < w.heap.size) (hc : ∀ k, k < xs.length → w.cell? ⟨b, off + k, none⟩ = some (.int .i64 (xs.getD k 0))) :
    Calls Tryd.prog 24 #[(.int .i64 s), .slice (some ⟨b, off, none⟩) ((m + 1 : Nat)) ((m + 1 : Nat))] w (RetM r kd w) := by
  have HC := Lib.hid hc
  have HP := Lib.hid hPA
  have HN := Lib.hid hn
  have HID := Lib.hid hid
  have HMX := Lib.hid hmx
  obtain ⟨x0, hx0⟩ : ∃ x, xs.getD 0 0 = x := ⟨_, rfl⟩
  have HX0 := Lib.hid hx0
  have c0 : w.cell? ⟨b, off, none⟩ = some (.int .i64 x0) := by rw [← hx0]; simpa using hc 0 (by omega)
  have hl1 : ¬ ((m : Int) + 1 < 1) := by omega
  have hl2 : ¬ (100 < (m : Int) + 1) := by omega
  have hl3 : ¬ (m = 0) := by omega
  have HA := Lib.hid (fun w' (hT : Below w.heap.size w w') => allW_is' true xs hent b off (m + 1) (by omega) w' (fun k hk => (hT.cell (p := ⟨b, off + k, none⟩) hb).trans (hc k hk)))
  rw [hn] at HA
  clear hc hPA hn hid hmx hent hx0
  rcases hs with rfl | rfl
  all_goals
    go_enter Tryd.func24, Tryd.ntmps24
    go_wp2_with fail
    refine (HA.out _ (by repeat (first | with_reducible exact own_refl _ | with_reducible assumption | with_reducible apply own_alloc | with_reducible apply own_drewN | with_reducible apply own_drew | ((with_reducible refine own_setCell ?_ ?_ _); rotate_left; focus (first | (simp; done) | (simp; omega))) | (with_reducible (refine own_trans ?_ (by assumption)))))).mono ?_
    rintro e w1 ⟨rfl, rfl⟩
    go_wp2_with fail
    refine (powerOfT_any _ _).mono ?_
    rintro e w1 ⟨rfl, hb1⟩
    have T1 : Below w.heap.size w w1 := by repeat (first | with_reducible exact own_refl _ | with_reducible assumption | with_reducible apply own_alloc | with_reducible apply own_drewN | with_reducible apply own_drew | ((with_reducible refine own_setCell ?_ ?_ _); rotate_left; focus (first | (simp; done) | (simp; omega))) | (with_reducible (refine own_trans ?_ (by assumption))))
    have Z1 : Box w1 w.heap.size [.int .i64 0, .int .i64 0, .int .i64 0, .int .i64 0] := Box.below (Box.new _ _ _) hb1
    have hz1 := Z1.1
    clear c0
    go_wp2
    go_loopw [6, 42] (fun v i wr => ∃ k : Nat, k ≤ m ∧ i = (.int .i64 k) ∧ GrA wr (w.heap.size + 1) v (2 * (k + 1)) (flat (chPre _ xs (k + 1))) ∧ Below w.heap.size w wr ∧ w.heap.size + 1 ≤ wr.heap.size ∧ Box wr w.heap.size [.int .i64 0, .int .i64 0, .int .i64 0, .int .i64 0]) (fun _ i _ => m - (intOf i).toNat)
    case atStart => exact ⟨0, Nat.zero_le _, rfl, by rw [chPre_one _ xs x0 HX0.out]; exact GrA.two w1 _ hz1 _ _ _ _ _ _ _ _, by repeat (first | with_reducible exact own_refl _ | with_reducible assumption | with_reducible apply own_alloc | with_reducible apply own_drewN | with_reducible apply own_drew | ((with_reducible refine own_setCell ?_ ?_ _); rotate_left; focus (first | (simp; done) | (simp; omega))) | (with_reducible (refine own_trans ?_ (by assumption)))), by simp; omega, Z1.alloc _⟩
    case round =>
      obtain ⟨k, hk, rfl, hG, T, hz, hR⟩ := hrel
      obtain ⟨ad, cp, hv⟩ := hG.shape
      subst hv
      by_cases hlt : k < m
      · obtain ⟨y, hy⟩ : ∃ y, xs.getD (k + 1) 0 = y := ⟨_, rfl⟩
        have c1 : wr.cell? ⟨b, off + 1 + k, none⟩ = some (.int .i64 y) := by
          rw [T.cell (p := ⟨b, off + 1 + k, none⟩) hb, ← hy, show off + 1 + k = off + (k + 1) by omega]
          exact HC.out (k + 1) (by rw [HN.out]; omega)
        have HST := Lib.hid (fun s => chPre_step s xs (k + 1) (by omega) y hy)
        have hX := Rd.below HMX.out T
        obtain ⟨t0', t1', t2', t3'⟩ := rd4' hX
        clear hy
        go_wp2_with fail
        go_region_held3 (fun w' => w'.cell? ⟨0, 0, none⟩ = some (.int .i64 0) ∧ w'.cell? ⟨0, 1, none⟩ = some (.int .i64 (-1)) ∧ w'.cell? ⟨0, 2, none⟩ = some (.int .i64 1) ∧ w'.cell? ⟨0, 3, none⟩ = some (.int .i64 0)) (first | exact ⟨t0', t1', t2', t3'⟩ | exact rd4' (Rd.alloc hX _) | go_keep)
          (first
            | (go_at_call 50; refine (powerOfT_any _ _).mono ?_; rintro e w2 ⟨rfl, hb2⟩; have hG := (GrA.own (GrA.drew hG) hb2); have T := own_trans (own_drew T) hb2; have hR := Box.below (Box.drew hR) hb2; have hz := Nat.le_trans hz hb2.size; have hX := Rd.below (Rd.drew hX) hb2; obtain ⟨t0', t1', t2', t3'⟩ := rd4' hX)
            | (refine step_appA2 (by rfl) _ _ (by rfl) (w.heap.size + 1) (.slice ad (2 * (k + 1)) cp) (2 * (k + 1)) (flat (chPre _ xs (k + 1))) 0 (-1) 1 0 1 y 0 1 (by rfl) (GrA.alloc hG _) _ (by rfl) (fun j u h => ((Box.new _ _ _).2 j u h).1) (by omega) (by simp; omega) ?_; intro v' w3 hG3 hb3; have T := (own_alloc T _).trans (hb3.mono (Nat.le_succ _)); have hR := Box.low (Box.alloc hR _) hb3 (Nat.lt_succ_self _); have hz : w.heap.size + 1 ≤ w3.heap.size := (by have := hb3.size; simp only [World.size_alloc] at this; omega); have hX := Rd.below HMX.out T; obtain ⟨t0', t1', t2', t3'⟩ := rd4' hX))
        go_wp2
        go_roundw
        case rel => exact ⟨k + 1, by omega, by go_num, by rw [HST.out, flat_two]; exact hG3, T, hz, hR⟩
        case measure => simp [intOf]; omega
      · have hke : k = m := by omega
        have HG : Hid (GrA wr (w.heap.size + 1) (.slice ad (2 * (k + 1)) cp) (2 * (k + 1)) (flat (chPre _ xs (m + 1)))) := Lib.hid (by rw [hke] at hG; rw [hke]; exact hG)
        obtain ⟨g, cp', hv, hgL, hBx⟩ := HG.out.box (by omega)
        injection hv with hv1 hv2 hv3
        subst hv1 hv3
        have HB := Lib.hid hBx
        have HKE := Lib.hid hke
        have hlen : ∀ s, (chPre s xs (m + 1)).length = 2 * (k + 1) := fun s => by rw [chPre_len, hke]
        have HCT := Lib.hid (fun w (h : Idn w) (hb : Box w g (matCells (chPre _ xs (m + 1)))) => prodAll_any (chPre _ xs (m + 1)) g cp (by rw [chPre_len]; omega) r kd HP.out w h hb)
        rw [hlen] at HCT
        obtain ⟨_, d0, d1, d2, d3, _, _, _, _⟩ := hR.four
        clear hke hBx hlen hG
        go_wp2_with fail
        refine (HCT.out _ (Rd.below HID.out T) HB.out).mono ?_
        rintro e w4 ⟨rfl, hb4⟩
        have R4 := hR.below hb4
        obtain ⟨_, d0, d1, d2, d3, _, _, _, _⟩ := R4.four
        go_wp2
        obtain ⟨q0, q1, q2, q3⟩ := R4.reads4' (.int .i64 r.a) (.int .i64 r.b) (.int .i64 r.c) (.int .i64 r.d)
        exact bodyPost_ret (v := .tuple #[(.agg #[.int .i64 r.a, .int .i64 r.b, .int .i64 r.c, .int .i64 r.d]), (.int .i64 kd)]) (by simp [results, Tryd.results24, go_sem, q0, q1, q2, q3]) rfl ⟨rfl, by repeat (first | with_reducible exact own_refl _ | with_reducible assumption | with_reducible apply own_alloc | with_reducible apply own_drewN | with_reducible apply own_drew | ((with_reducible refine own_setCell ?_ ?_ _); rotate_left; focus (first | (simp; done) | (simp; omega))) | (with_reducible (refine own_trans ?_ (by assumption))))⟩
set_option maxRecDepth 1000000 in
set_option maxHeartbeats 2000000 in
theorem implMoc_one (s : Int) (hs : s = 1 ∨ s = -1) (b off : Nat) (x0 : Int) (hent : Ent x0) (r : Mat) (kd : Int) (hPA : PA (chPre s [x0] 1) r kd) (w : World) (hid : Idn w)
    (hb : b < w.heap.size) (hc : w.cell? ⟨b, off, none⟩ = some (.int .i64 x0)) :
    Calls Tryd.prog 24 #[(.int .i64 s), .slice (some ⟨b, off, none⟩) 1 1] w (RetM r kd w) := by
  have HP := Lib.hid hPA
  have HID := Lib.hid hid
  have HA := Lib.hid (fun w' (hT : Below w.heap.size w w') => allW_is' true [x0] (by simp [allW]; exact ent_iff.2 hent) b off 1 (by simp) w' (fun k hk => by
    obtain rfl : k = 0 := by simp at hk; omega
    exact (hT.cell (p := ⟨b, off, none⟩) hb).trans hc))
  simp only [List.length_cons, List.length_nil] at HA
  clear hPA hid hent
  rcases hs with rfl | rfl
  all_goals
    go_enter Tryd.func24, Tryd.ntmps24
    go_wp2_with fail
    refine (HA.out _ (by repeat (first | with_reducible exact own_refl _ | with_reducible assumption | with_reducible apply own_alloc | with_reducible apply own_drewN | with_reducible apply own_drew | ((with_reducible refine own_setCell ?_ ?_ _); rotate_left; focus (first | (simp; done) | (simp; omega))) | (with_reducible (refine own_trans ?_ (by assumption)))))).mono ?_
    rintro e w1 ⟨rfl, rfl⟩
    go_wp2_with fail
    refine (powerOfT_any _ _).mono ?_
    rintro e w1 ⟨rfl, hb1⟩
    have T1 : Below w.heap.size w w1 := by repeat (first | with_reducible exact own_refl _ | with_reducible assumption | with_reducible apply own_alloc | with_reducible apply own_drewN | with_reducible apply own_drew | ((with_reducible refine own_setCell ?_ ?_ _); rotate_left; focus (first | (simp; done) | (simp; omega))) | (with_reducible (refine own_trans ?_ (by assumption))))
    have Z1 : Box w1 w.heap.size [.int .i64 0, .int .i64 0, .int .i64 0, .int .i64 0] := Box.below (Box.new _ _ _) hb1
    have hz1 := Z1.1
    clear hc
    go_wp2
    go_loopw [6, 42] (fun v i wr => i = (.int .i64 0) ∧ v = .slice (some ⟨w1.heap.size, 0, none⟩) 2 2 ∧ Below w.heap.size w wr ∧ Box wr w.heap.size [.int .i64 0, .int .i64 0, .int .i64 0, .int .i64 0] ∧ Box wr w1.heap.size (matCells (chPre _ [x0] 1))) (fun _ _ _ => 0)
    case atStart => exact ⟨rfl, rfl, by repeat (first | with_reducible exact own_refl _ | with_reducible assumption | with_reducible apply own_alloc | with_reducible apply own_drewN | with_reducible apply own_drew | ((with_reducible refine own_setCell ?_ ?_ _); rotate_left; focus (first | (simp; done) | (simp; omega))) | (with_reducible (refine own_trans ?_ (by assumption)))), Z1.alloc _, by rw [chPre_one _ [x0] x0 rfl]; exact Box.new _ _ _⟩
    case round =>
      obtain ⟨rfl, rfl, T, hR, hBx⟩ := hrel
      have HB := Lib.hid hBx
      have HCT := Lib.hid (fun w (h : Idn w) (hb : Box w w1.heap.size (matCells (chPre _ [x0] 1))) => prodAll_any (chPre _ [x0] 1) w1.heap.size 2 (by rw [chPre_len]; omega) r kd HP.out w h hb)
      rw [chPre_len] at HCT
      obtain ⟨_, d0, d1, d2, d3, _, _, _, _⟩ := hR.four
      clear hBx
      go_wp2_with fail
      refine (HCT.out _ (Rd.below HID.out T) HB.out).mono ?_
      rintro e w4 ⟨rfl, hb4⟩
      have R4 := hR.below hb4
      obtain ⟨_, d0, d1, d2, d3, _, _, _, _⟩ := R4.four
      go_wp2
      obtain ⟨q0, q1, q2, q3⟩ := R4.reads4' (.int .i64 r.a) (.int .i64 r.b) (.int .i64 r.c) (.int .i64 r.d)
      exact bodyPost_ret (v := .tuple #[(.agg #[.int .i64 r.a, .int .i64 r.b, .int .i64 r.c, .int .i64 r.d]), (.int .i64 kd)]) (by simp [results, Tryd.results24, go_sem, q0, q1, q2, q3]) rfl ⟨rfl, by repeat (first | with_reducible exact own_refl _ | with_reducible assumption | with_reducible apply own_alloc | with_reducible apply own_drewN | with_reducible apply own_drew | ((with_reducible refine own_setCell ?_ ?_ _); rotate_left; focus (first | (simp; done) | (simp; omega))) | (with_reducible (refine own_trans ?_ (by assumption))))⟩
set_option maxHeartbeats 1000000 in
theorem implMoc_sign (s : Int) (hs : ¬ (s = 1 ∨ s = -1)) (a : Option Addr) (n c : Nat) (w : World) :
    Calls Tryd.prog 24 #[(.int .i64 s), .slice a n c] w fun e w' => e = .returned (.tuple #[(.agg #[.int .i64 0, .int .i64 0, .int .i64 0, .int .i64 0]), (.int .i64 2)]) ∧ Below w.heap.size w w' := by
  have e1 : (s == 1) = false := by simp; omega
  have e2 : (s == -1) = false := by simp; omega
  have e3 : (s != 1) = true := by simp; omega
  have e4 : (s != -1) = true := by simp; omega
  clear hs
  go_enter Tryd.func24, Tryd.ntmps24
  go_wp2
  exact bodyPost_ret (v := .tuple #[(.agg #[.int .i64 0, .int .i64 0, .int .i64 0, .int .i64 0]), (.int .i64 2)]) (by simp [results, Tryd.results24, go_sem]) rfl ⟨rfl, by repeat (first | with_reducible exact own_refl _ | with_reducible assumption | with_reducible apply own_alloc | with_reducible apply own_drewN | with_reducible apply own_drew | ((with_reducible refine own_setCell ?_ ?_ _); rotate_left; focus (first | (simp; done) | (simp; omega))) | (with_reducible (refine own_trans ?_ (by assumption))))⟩
set_option maxHeartbeats 1000000 in
theorem implMoc_len (s : Int) (hs : s = 1 ∨ s = -1) (a : Option Addr) (n c : Nat) (hn : n < 1 ∨ 100 < n) (hn2 : n ≤ 1048576) (w : World) :
    Calls Tryd.prog 24 #[(.int .i64 s), .slice a n c] w fun e w' => e = .returned (.tuple #[(.agg #[.int .i64 0, .int .i64 0, .int .i64 0, .int .i64 0]), (.int .i64 2)]) ∧ Below w.heap.size w w' := by
  rcases hn with hn | hn
  · obtain rfl : n = 0 := by omega
    rcases hs with rfl | rfl
    all_goals
      go_enter Tryd.func24, Tryd.ntmps24
      go_wp2
      exact bodyPost_ret (v := .tuple #[(.agg #[.int .i64 0, .int .i64 0, .int .i64 0, .int .i64 0]), (.int .i64 2)]) (by simp [results, Tryd.results24, go_sem]) rfl ⟨rfl, by repeat (first | with_reducible exact own_refl _ | with_reducible assumption | with_reducible apply own_alloc | with_reducible apply own_drewN | with_reducible apply own_drew | ((with_reducible refine own_setCell ?_ ?_ _); rotate_left; focus (first | (simp; done) | (simp; omega))) | (with_reducible (refine own_trans ?_ (by assumption))))⟩
  · have h1 : ¬ ((n : Int) < 1) := by omega
    have h2 : (100 : Int) < n := by omega
    rcases hs with rfl | rfl
    all_goals
      go_enter Tryd.func24, Tryd.ntmps24
      go_wp2
      exact bodyPost_ret (v := .tuple #[(.agg #[.int .i64 0, .int .i64 0, .int .i64 0, .int .i64 0]), (.int .i64 2)]) (by simp [results, Tryd.results24, go_sem]) rfl ⟨rfl, by repeat (first | with_reducible exact own_refl _ | with_reducible assumption | with_reducible apply own_alloc | with_reducible apply own_drewN | with_reducible apply own_drew | ((with_reducible refine own_setCell ?_ ?_ _); rotate_left; focus (first | (simp; done) | (simp; omega))) | (with_reducible (refine own_trans ?_ (by assumption))))⟩
set_option maxHeartbeats 1000000 in
theorem implMoc_ent (s : Int) (hs : s = 1 ∨ s = -1) (b off c : Nat) (xs : List Int) (hn : 1 ≤ xs.length) (hn2 : xs.length ≤ 100) (hent : allW xs 1000000000 = false) (w : World)
    (hb : b < w.heap.size) (hc : ∀ k, k < xs.length → w.cell? ⟨b, off + k, none⟩ = some (.int .i64 (xs.getD k 0))) :
    Calls Tryd.prog 24 #[(.int .i64 s), .slice (some ⟨b, off, none⟩) xs.length c] w fun e w' => e = .returned (.tuple #[(.agg #[.int .i64 0, .int .i64 0, .int .i64 0, .int .i64 0]), (.int .i64 2)]) ∧ Below w.heap.size w w' := by
  have h1 : ¬ ((xs.length : Int) < 1) := by omega
  have h2 : ¬ ((100 : Int) < xs.length) := by omega
  have HA := Lib.hid (fun w' (hT : Below w.heap.size w w') => allW_is' false xs hent b off c (by omega) w' (fun k hk => (hT.cell (p := ⟨b, off + k, none⟩) hb).trans (hc k hk)))
  clear hc hent
  rcases hs with rfl | rfl
  all_goals
    go_enter Tryd.func24, Tryd.ntmps24
    go_wp2_with fail
    refine (HA.out _ (by repeat (first | with_reducible exact own_refl _ | with_reducible assumption | with_reducible apply own_alloc | with_reducible apply own_drewN | with_reducible apply own_drew | ((with_reducible refine own_setCell ?_ ?_ _); rotate_left; focus (first | (simp; done) | (simp; omega))) | (with_reducible (refine own_trans ?_ (by assumption)))))).mono ?_
    rintro e w1 ⟨rfl, rfl⟩
    go_wp2
    exact bodyPost_ret (v := .tuple #[(.agg #[.int .i64 0, .int .i64 0, .int .i64 0, .int .i64 0]), (.int .i64 2)]) (by simp [results, Tryd.results24, go_sem]) rfl ⟨rfl, by repeat (first | with_reducible exact own_refl _ | with_reducible assumption | with_reducible apply own_alloc | with_reducible apply own_drewN | with_reducible apply own_drew | ((with_reducible refine own_setCell ?_ ?_ _); rotate_left; focus (first | (simp; done) | (simp; omega))) | (with_reducible (refine own_trans ?_ (by assumption))))⟩
end Go.Proofs.YteknmpnkjoopfaaDoor
