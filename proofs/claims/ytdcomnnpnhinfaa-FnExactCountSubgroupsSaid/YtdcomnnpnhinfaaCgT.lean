/- CountSubgroups: the model's side, and the walk of the law. -/
import Derived.Test.YtdcomnnpnhinfaaCgA
import Derived.Test.YtdcomnnpnhinfaaLSub
namespace Go.Proofs.Ytdcomnnpnhinfaa
open Go.ChangeShapes Go.WideShapes Go.ChangeAt Go.RowKit

/-- the first k numbers of a table -/
def prf (f : Nat → Int) (k : Nat) : List Int := (List.range k).map f
theorem prf_len (f : Nat → Int) (k : Nat) : (prf f k).length = k := by simp [prf]
theorem prf_at {f : Nat → Int} {k i : Nat} (h : i < k) : (prf f k).getD i 0 = f i := by simp [prf, List.getD, h]
theorem prf_succ (f : Nat → Int) (k : Nat) : prf f (k + 1) = prf f k ++ [f k] := by simp [prf, List.range_succ]
set_option maxRecDepth 100000 in
set_option maxHeartbeats 4000000 in
theorem l10Roots2_is (N : Nat) (hN : N ≤ 12) (w : World) : Calls Try.prog 25 #[(.int .i64 ((N : Int))), (.int .i64 2)] w fun e w' => ∃ v, e = .returned v ∧ Gr w' w.heap.size v (prf t2 (N + 1)) ∧ Below w.heap.size w w' := by
  have L0 : Gr (w.alloc (.cells #[(.int .i64 1)] 2)) w.heap.size (.slice (some ⟨w.heap.size, 0, none⟩) 1 1) (prf t2 1) := by
    have h := World.ownsRow_lit (e := 2) (size := 1) (base := w.heap.size) w #[(.int .i64 1)] 1 (Nat.le_refl _) (by unfold maxLen; omega) rfl
    exact h
  have T0 := own_alloc (own_refl w) (.cells #[(.int .i64 1)] 2)
  go_enter Try.func25, Try.ntmps25
  go_upto_region 2 with fail
  generalize w.alloc (.cells #[(.int .i64 1)] 2) = w0 at *
  go_wp2_with fail
  go_loopw [5, 6] (fun v x wr => ∃ k : Nat, 1 ≤ k ∧ k ≤ N + 1 ∧ x = (.int .i64 ((k : Int))) ∧ Gr wr w.heap.size v (prf t2 k) ∧ Below w.heap.size w wr) (fun _ x _ => N + 1 - (intOf x).toNat)
  case atStart => exact ⟨1, by omega, by omega, rfl, L0, T0⟩
  case round =>
    obtain ⟨k, hk1, hk, rfl, G, T⟩ := hrel
    obtain ⟨ad, cap, e⟩ := G.shape
    subst e
    rw [prf_len] at G ⊢
    by_cases hlt : k ≤ N
    · obtain ⟨g, e, _, _, hc⟩ := G.cellsZ (by omega)
      subst e
      have W1 : IntKind.i64.wrap ((k : Int) - 1) = ((k - 1 : Nat) : Int) := (IntWalk.i64_in _ (by omega)).trans (by omega)
      obtain ⟨k1, hk1'⟩ : ∃ k1, k - 1 = k1 := ⟨_, rfl⟩
      rw [hk1'] at W1
      have hkk : k1 < k := by omega
      have hkk1 : k = k1 + 1 := by omega
      clear hk1'
      obtain ⟨x, hx⟩ : ∃ x, t2 k = x := ⟨_, rfl⟩
      obtain ⟨x1, hx1⟩ : ∃ x, t2 k1 = x := ⟨_, rfl⟩
      have b := t_bd k (by omega)
      have b1 := t_bd k1 (by omega)
      rw [hx] at b
      rw [hx1] at b1
      obtain ⟨c1, -⟩ := hc k1 (by omega)
      rw [prf_at hkk, hx1] at c1
      have HX : Hid (prf t2 k ++ [x] = prf t2 (k + 1)) := Lib.hid (by rw [prf_succ, hx])
      have hz := T.size
      rcases (show k < 2 ∨ 2 ≤ k by omega) with h | h
      · have s : x = x1 := by
          rcases (show k = 1 ∨ k = 2 by omega) with h2 | h2
          · obtain rfl : k1 = 0 := by omega
            subst h2
            rw [← hx, ← hx1]
            rfl
          · obtain rfl : k1 = 1 := by omega
            subst h2
            first | omega | (rw [← hx, ← hx1]; rfl)
        have HS := Lib.hid s
        have RB : Hid (1 ≤ k ∧ k ≤ N ∧ k = k1 + 1) := Lib.hid (by omega)
        clear hx hx1 s b b1 hc hkk1
        obtain rfl : x = x1 := HS.out
        go_wp2_with (at_builtin; refine app64 rfl _ _ rfl w.heap.size wr (.slice (some ⟨g, 0, none⟩) k cap) (prf t2 k) x rfl G wr.heap.size rfl rfl (by rw [prf_len]; omega) (by omega) ?_; intro v' w2 hG2 hb2)
        go_roundw
        case rel => exact ⟨k + 1, by omega, by omega, by go_num, by rw [← HX.out]; exact hG2, T.trans hb2⟩
        case measure => simp [intOf]; omega
      · have WK : IntKind.i64.wrap ((k : Int) - 2) = ((k - 2 : Nat) : Int) := (IntWalk.i64_in _ (by omega)).trans (by omega)
        obtain ⟨k2, hk2⟩ : ∃ k2, k - 2 = k2 := ⟨_, rfl⟩
        rw [hk2] at WK
        have s := t2_step k (by omega) h
        have b2 := t_bd k2 (by omega)
        rw [hk2, show k - 1 = k1 by omega, hx, hx1, show (k : Int) - 1 = (k1 : Int) by omega] at s
        obtain ⟨c2, -⟩ := hc k2 (by omega)
        rw [prf_at (by omega)] at c2
        have hk2k : k2 < k := by omega
        have hkk2 : k = k2 + 2 := by omega
        clear hk2
        generalize t2 k2 = x2 at *
        have hm2 : 0 ≤ (k1 : Int) * x2 := Int.mul_nonneg (by omega) (by omega)
        obtain ⟨p2, hp2⟩ : ∃ p, (k1 : Int) * x2 = p := ⟨_, rfl⟩
        rw [hp2] at s hm2
        have M2 : IntKind.i64.wrap ((k1 : Int) * x2) = p2 := (IntWalk.i64_in _ (by omega)).trans hp2
        have M2' := (wrapE _).symm.trans M2
        have S2 : IntKind.i64.wrap x = x := IntWalk.i64_in _ (by omega)
        have S2' := (wrapE _).symm.trans S2
        have S3 := s.symm
        clear hp2
        have RB : Hid (1 ≤ k ∧ k ≤ N ∧ k = k1 + 1) := Lib.hid (by omega)
        clear hx hx1 s b b1 b2 hc hkk1 hkk2
        go_wp2_with (at_builtin; refine app64 rfl _ _ rfl w.heap.size wr (.slice (some ⟨g, 0, none⟩) k cap) (prf t2 k) x rfl G wr.heap.size rfl rfl (by rw [prf_len]; have := RB.out; omega) hz ?_; intro v' w2 hG2 hb2)
        go_roundw
        case rel => exact ⟨k + 1, by have := RB.out; omega, by have := RB.out; omega, by go_num, by rw [← HX.out]; exact hG2, T.trans hb2⟩
        case measure => have := RB.out; simp [intOf]; omega
    · obtain rfl : k = N + 1 := by omega
      clear hlt
      go_wp2
      go_ret
      exact ⟨_, rfl, G, T⟩
set_option maxRecDepth 100000 in
set_option maxHeartbeats 4000000 in
theorem l10Roots3_is (N : Nat) (hN : N ≤ 12) (w : World) : Calls Try.prog 25 #[(.int .i64 ((N : Int))), (.int .i64 3)] w fun e w' => ∃ v, e = .returned v ∧ Gr w' w.heap.size v (prf t3 (N + 1)) ∧ Below w.heap.size w w' := by
  have L0 : Gr (w.alloc (.cells #[(.int .i64 1)] 2)) w.heap.size (.slice (some ⟨w.heap.size, 0, none⟩) 1 1) (prf t3 1) := by
    have h := World.ownsRow_lit (e := 2) (size := 1) (base := w.heap.size) w #[(.int .i64 1)] 1 (Nat.le_refl _) (by unfold maxLen; omega) rfl
    exact h
  have T0 := own_alloc (own_refl w) (.cells #[(.int .i64 1)] 2)
  go_enter Try.func25, Try.ntmps25
  go_upto_region 2 with fail
  generalize w.alloc (.cells #[(.int .i64 1)] 2) = w0 at *
  go_wp2_with fail
  go_loopw [5, 6] (fun v x wr => ∃ k : Nat, 1 ≤ k ∧ k ≤ N + 1 ∧ x = (.int .i64 ((k : Int))) ∧ Gr wr w.heap.size v (prf t3 k) ∧ Below w.heap.size w wr) (fun _ x _ => N + 1 - (intOf x).toNat)
  case atStart => exact ⟨1, by omega, by omega, rfl, L0, T0⟩
  case round =>
    obtain ⟨k, hk1, hk, rfl, G, T⟩ := hrel
    obtain ⟨ad, cap, e⟩ := G.shape
    subst e
    rw [prf_len] at G ⊢
    by_cases hlt : k ≤ N
    · obtain ⟨g, e, _, _, hc⟩ := G.cellsZ (by omega)
      subst e
      have W1 : IntKind.i64.wrap ((k : Int) - 1) = ((k - 1 : Nat) : Int) := (IntWalk.i64_in _ (by omega)).trans (by omega)
      obtain ⟨k1, hk1'⟩ : ∃ k1, k - 1 = k1 := ⟨_, rfl⟩
      rw [hk1'] at W1
      have hkk : k1 < k := by omega
      have hkk1 : k = k1 + 1 := by omega
      clear hk1'
      obtain ⟨x, hx⟩ : ∃ x, t3 k = x := ⟨_, rfl⟩
      obtain ⟨x1, hx1⟩ : ∃ x, t3 k1 = x := ⟨_, rfl⟩
      have b := t_bd k (by omega)
      have b1 := t_bd k1 (by omega)
      rw [hx] at b
      rw [hx1] at b1
      obtain ⟨c1, -⟩ := hc k1 (by omega)
      rw [prf_at hkk, hx1] at c1
      have HX : Hid (prf t3 k ++ [x] = prf t3 (k + 1)) := Lib.hid (by rw [prf_succ, hx])
      have hz := T.size
      rcases (show k < 3 ∨ 3 ≤ k by omega) with h | h
      · have s : x = x1 := by
          rcases (show k = 1 ∨ k = 2 by omega) with h2 | h2
          · obtain rfl : k1 = 0 := by omega
            subst h2
            rw [← hx, ← hx1]
            rfl
          · obtain rfl : k1 = 1 := by omega
            subst h2
            first | omega | (rw [← hx, ← hx1]; rfl)
        have HS := Lib.hid s
        have RB : Hid (1 ≤ k ∧ k ≤ N ∧ k = k1 + 1) := Lib.hid (by omega)
        clear hx hx1 s b b1 hc hkk1
        obtain rfl : x = x1 := HS.out
        go_wp2_with (at_builtin; refine app64 rfl _ _ rfl w.heap.size wr (.slice (some ⟨g, 0, none⟩) k cap) (prf t3 k) x rfl G wr.heap.size rfl rfl (by rw [prf_len]; omega) (by omega) ?_; intro v' w2 hG2 hb2)
        go_roundw
        case rel => exact ⟨k + 1, by omega, by omega, by go_num, by rw [← HX.out]; exact hG2, T.trans hb2⟩
        case measure => simp [intOf]; omega
      · have WK : IntKind.i64.wrap ((k : Int) - 3) = ((k - 3 : Nat) : Int) := (IntWalk.i64_in _ (by omega)).trans (by omega)
        obtain ⟨k2, hk2⟩ : ∃ k2, k - 3 = k2 := ⟨_, rfl⟩
        rw [hk2] at WK
        have s := t3_step k (by omega) h
        have b2 := t_bd k2 (by omega)
        rw [hk2, show k - 1 = k1 by omega, hx, hx1, show (k : Int) - 1 = (k1 : Int) by omega] at s
        obtain ⟨c2, -⟩ := hc k2 (by omega)
        rw [prf_at (by omega)] at c2
        have hk2k : k2 < k := by omega
        have hkk2 : k = k2 + 3 := by omega
        clear hk2
        generalize t3 k2 = x2 at *
        have W2 : IntKind.i64.wrap ((k : Int) - 2) = ((k - 2 : Nat) : Int) := (IntWalk.i64_in _ (by omega)).trans (by omega)
        obtain ⟨k3, hk3⟩ : ∃ k3, k - 2 = k3 := ⟨_, rfl⟩
        rw [hk3] at W2
        have hkk3 : k = k3 + 2 := by omega
        rw [show (k : Int) - 2 = (k3 : Int) by omega] at s
        clear hk3
        have hq3 : k1 * k3 ≤ 12 * 12 := Nat.mul_le_mul (by omega) (by omega)
        rw [← Int.natCast_mul] at s
        obtain ⟨q3, hq⟩ : ∃ q, k1 * k3 = q := ⟨_, rfl⟩
        rw [hq] at s hq3
        have hqb : -9223372036854775808 ≤ (q3 : Int) ∧ (q3 : Int) ≤ 9223372036854775807 := by omega
        have hm3 : 0 ≤ (q3 : Int) * x2 := Int.mul_nonneg (by omega) (by omega)
        obtain ⟨p3, hp3⟩ : ∃ p, (q3 : Int) * x2 = p := ⟨_, rfl⟩
        rw [hp3] at s hm3
        have M3 : IntKind.i64.wrap ((q3 : Int) * x2) = p3 := (IntWalk.i64_in _ (by omega)).trans hp3
        have M3' := (wrapE _).symm.trans M3
        have S3 : IntKind.i64.wrap x = x := IntWalk.i64_in _ (by omega)
        have S3' := (wrapE _).symm.trans S3
        have S4 := s.symm
        have RBB : Hid (1 ≤ k ∧ k ≤ N ∧ k = k1 + 1) := Lib.hid (by omega)
        have M30 : IntKind.i64.wrap ((k1 : Int) * (k3 : Int)) = (q3 : Int) := by rw [← Int.natCast_mul, hq]; exact IntWalk.i64_in _ hqb
        have M30' := (wrapE _).symm.trans M30
        clear hp3 hq hkk3
        have RB : Hid (1 ≤ k ∧ k ≤ N ∧ k = k1 + 1) := Lib.hid (by exact RBB.out)
        clear hx hx1 s b b1 b2 hc hkk1 hkk2
        go_wp2_with (at_builtin; refine app64 rfl _ _ rfl w.heap.size wr (.slice (some ⟨g, 0, none⟩) k cap) (prf t3 k) x rfl G wr.heap.size rfl rfl (by rw [prf_len]; have := RB.out; omega) hz ?_; intro v' w2 hG2 hb2)
        go_roundw
        case rel => exact ⟨k + 1, by have := RB.out; omega, by have := RB.out; omega, by go_num, by rw [← HX.out]; exact hG2, T.trans hb2⟩
        case measure => have := RB.out; simp [intOf]; omega
    · obtain rfl : k = N + 1 := by omega
      clear hlt
      go_wp2
      go_ret
      exact ⟨_, rfl, G, T⟩
set_option maxHeartbeats 2000000 in
theorem specSub_no (n : Int) (hn : inR n 1 12 = false) (w : World) : Calls Try.prog 12 #[(.int .i64 n)] w fun e w' => e = .returned (.tuple #[(.int .i64 0), (.int .i64 2)]) ∧ Below w.heap.size w w' := by
  have HN := Lib.hid hn
  clear hn
  go_enter Try.func12, Try.ntmps12
  go_wp2_with fail
  refine (l01In_is false _ _ _ HN.out _).mono ?_
  rintro e w2 ⟨rfl, rfl⟩
  go_wp2
  go_ret2
  exact ⟨rfl, by repeat (first | with_reducible exact own_refl _ | with_reducible assumption | with_reducible apply own_alloc | with_reducible apply own_drewN | with_reducible apply own_drew | ((with_reducible refine own_setCell ?_ ?_ _); rotate_left; focus (first | (simp; done) | (simp; omega))) | (with_reducible (refine own_trans ?_ (by assumption))))⟩
set_option maxRecDepth 100000 in
set_option maxHeartbeats 4000000 in
theorem specSub_yes (N : Nat) (s : Int) (hs' : sbL.getD N 0 = s) (hN1 : 1 ≤ N) (hN : N ≤ 12) (w : World) : Calls Try.prog 12 #[(.int .i64 ((N : Int)))] w fun e w' => e = .returned (.tuple #[(.int .i64 s), (.int .i64 0)]) ∧ Below w.heap.size w w' := by
  have HN : Hid (inR (N : Int) 1 12 = true) := Lib.hid (decide_eq_true (by omega))
  have H2 := Lib.hid (fun w => l10Roots2_is N hN w)
  have H3 := Lib.hid (fun w => l10Roots3_is N hN w)
  have HE := Lib.hid (dv_end N (by omega) hN1).2
  rw [hs'] at HE
  clear hs'
  go_enter Try.func12, Try.ntmps12
  go_wp2_with fail
  refine (l01In_is true _ _ _ HN.out _).mono ?_
  rintro e w2 ⟨rfl, rfl⟩
  go_wp2_with fail
  refine (H2.out _).mono ?_
  rintro e w3 ⟨v2, rfl, G2, hb3⟩
  go_wp2_with fail
  refine (H3.out _).mono ?_
  rintro e w4 ⟨v3, rfl, G3, hb4⟩
  have G2 := G2.own hb4
  have G3 := G3.weakL (show w.heap.size ≤ w3.heap.size from hb3.size)
  have T4 := own_trans hb3 hb4
  have T := own_refl w4
  have hz4 := T4.size
  clear hb3 hb4
  obtain ⟨a2, c2, e⟩ := G2.shape
  subst e
  obtain ⟨a3, c3, e⟩ := G3.shape
  subst e
  rw [prf_len] at G2 G3 ⊢
  rw [prf_len]
  obtain ⟨g2, e, lg2, ug2, hc2⟩ := G2.cellsZ (by omega)
  subst e
  obtain ⟨g3, e, lg3, ug3, hc3⟩ := G3.cellsZ (by omega)
  subst e
  have HR : Hid (Rc w4 g2 (prf t2 (N + 1)) ∧ Rc w4 g3 (prf t3 (N + 1))) := Lib.hid ⟨⟨ug2, fun k hk => (hc2 k (by rw [prf_len] at hk; exact hk)).1⟩, ⟨ug3, fun k hk => (hc3 k (by rw [prf_len] at hk; exact hk)).1⟩⟩
  clear hc2 hc3 G2 G3
  have L0 : Gr (w4.alloc (.cells #[(.int .i64 0)] 2)) w4.heap.size (.slice (some ⟨w4.heap.size, 0, none⟩) 1 1) (prf acs 1) := by
    have h := World.ownsRow_lit (e := 2) (size := 1) (base := w4.heap.size) w4 #[(.int .i64 0)] 1 (Nat.le_refl _) (by unfold maxLen; omega) rfl
    exact h
  have T := own_alloc T (.cells #[(.int .i64 0)] 2)
  go_upto_region 5 with fail
  generalize w4.alloc (.cells #[(.int .i64 0)] 2) = w5 at *
  go_wp2_with fail
  go_loopw [6, 7, 8] (fun v f x wr => ∃ m : Nat, 1 ≤ m ∧ m ≤ N + 1 ∧ x = (.int .i64 ((m : Int))) ∧ f = (.int .i64 (fck m)) ∧ Gr wr w4.heap.size v (prf acs m) ∧ Below w4.heap.size w4 wr) (fun _ _ x _ => N + 1 - (intOf x).toNat)
  case atStart => exact ⟨1, by omega, by omega, rfl, rfl, L0, T⟩
  case round =>
    obtain ⟨m, hm1, hm, rfl, rfl, G, T⟩ := hrel
    obtain ⟨ad, cap, e⟩ := G.shape
    subst e
    rw [prf_len] at G ⊢
    obtain ⟨g, e, lg, ug, hc⟩ := G.cellsZ (by omega)
    subst e
    have hc2 := (HR.out.1.below T).2
    have hc3 := (HR.out.2.below T).2
    have hz := T.size
    by_cases hlt : m ≤ N
    · have p2 := hc2 m (by rw [prf_len]; omega)
      have p3 := hc3 m (by rw [prf_len]; omega)
      rw [prf_at (by omega)] at p2 p3
      have P := pr_step m (by omega)
      have b := t_bd m (by omega)
      have X1 : IntKind.i64.wrap (t2 m * t3 m) = owk m 1 := by
        rw [← P]
        exact IntWalk.i64_in _ (by omega)
      have Y1 := (wrapE _).symm.trans X1
      have RB : Hid (1 ≤ m ∧ m ≤ N) := Lib.hid (by omega)
      clear P b hc hc2 hc3
      go_upto_region 8 with fail
      go_region
      have G := G.drew
      have T := own_drew T
      generalize wr.drew = wA at *
      clear p2 p3 X1 Y1
      go_wp2_with fail
      go_loopw [9, 10, 11] (fun o c x wr => ∃ j : Nat, 1 ≤ j ∧ j ≤ m ∧ x = (.int .i64 ((j : Int))) ∧ c = (.int .i64 (chw m j)) ∧ o = (.int .i64 (owk m j)) ∧ Gr wr w4.heap.size (.slice (some ⟨g, 0, none⟩) m cap) (prf acs m) ∧ Below w4.heap.size w4 wr) (fun _ _ x _ => m - (intOf x).toNat)
      case atStart => exact ⟨1, by omega, by omega, rfl, rfl, rfl, G, T⟩
      case round =>
        obtain ⟨j, hj1, hj, rfl, rfl, rfl, G, T⟩ := hrel
        obtain ⟨_, e, _, _, hc⟩ := G.cellsZ (by omega)
        injection e with e; injection e with e; subst e
        have hc2 := (HR.out.1.below T).2
        have hc3 := (HR.out.2.below T).2
        by_cases hlt2 : j < m
        · have W1 : IntKind.i64.wrap ((m : Int) - (j : Int)) = ((m - j : Nat) : Int) := (IntWalk.i64_in _ (by omega)).trans (by omega)
          have q1 := ch_bd m (by omega) j hlt2 hj1
          have q2 := ch_bd2 m (by omega) j hlt2 hj1
          have q3 := ch_at m (by omega) j hlt2 hj1
          have q4 := ow_bd m (by omega) j hlt2 hj1
          have q7 := spec_mul m (by omega) j hlt2 hj1
          rw [show (m : Int) - (j : Int) = ((m - j : Nat) : Int) by omega] at q2 q3
          have hd : m - j < N + 1 := by omega
          obtain ⟨d, hd'⟩ : ∃ d, m - j = d := ⟨_, rfl⟩
          rw [hd'] at W1 q2 q3 q7 hd
          obtain ⟨c1, -⟩ := hc j hlt2
          rw [prf_at hlt2] at c1
          have c22 := hc2 d (by rw [prf_len]; exact hd)
          have c33 := hc3 d (by rw [prf_len]; exact hd)
          rw [prf_at hd] at c22 c33
          obtain ⟨o2, ho2⟩ : ∃ o, owk m (j + 1) = o := ⟨_, rfl⟩
          obtain ⟨h2, hh2⟩ : ∃ o, chw m (j + 1) = o := ⟨_, rfl⟩
          have HO := Lib.hid (And.intro ho2 hh2)
          rw [ho2] at q3 q4
          rw [hh2] at q3
          clear ho2 hh2 hd' hc hc2 hc3
          generalize owk m j = o at *
          generalize chw m j = c at *
          generalize acs j = a at *
          generalize prk d = p at *
          generalize t2 d = s2 at *
          generalize t3 d = s3 at *
          obtain ⟨ca, hca⟩ : ∃ x, c * a = x := ⟨_, rfl⟩
          rw [hca] at q1 q2 q3 q7
          obtain ⟨cp, hcp⟩ : ∃ x, ca * p = x := ⟨_, rfl⟩
          rw [hcp] at q2 q3 q7
          obtain ⟨ce, hce⟩ : ∃ x, ca * s2 = x := ⟨_, rfl⟩
          rw [hce] at q7
          obtain ⟨cd, hcd⟩ : ∃ x, c * (d : Int) = x := ⟨_, rfl⟩
          rw [hcd] at q2 q3
          obtain ⟨q5, q6⟩ := q3
          obtain ⟨q7, q8⟩ := q7
          have hb2 : 0 ≤ h2 ∧ h2 ≤ 10000 := by
            rw [q5]
            exact ⟨Int.tdiv_nonneg (by omega) (by omega), Int.le_trans (Int.tdiv_le_self _ (by omega)) (by omega)⟩
          have X1 : IntKind.i64.wrap (c * a) = ca := by rw [hca]; exact IntWalk.i64_in _ (by omega)
          have X2 : IntKind.i64.wrap (ca * s2) = ce := by rw [hce]; exact IntWalk.i64_in _ (by omega)
          have X7 : IntKind.i64.wrap (ce * s3) = cp := by rw [q7]; exact IntWalk.i64_in _ (by omega)
          have X3 : IntKind.i64.wrap (o - cp) = o2 := by rw [← q6]; exact IntWalk.i64_in _ (by omega)
          have X4 : IntKind.i64.wrap (c * (d : Int)) = cd := by rw [hcd]; exact IntWalk.i64_in _ (by omega)
          have X5 : IntKind.i64.wrap (cd.tdiv (j : Int)) = h2 := by rw [← q5]; exact IntWalk.i64_in _ (by omega)
          have Y1 := (wrapE _).symm.trans X1
          have Y2 := (wrapE _).symm.trans X2
          have Y7 := (wrapE _).symm.trans X7
          have Y3 := (wrapE _).symm.trans X3
          have Y4 := (wrapE _).symm.trans X4
          have Y5 := (wrapE _).symm.trans X5
          have X6 := q5.symm
          have hj0 : ¬ ((j : Int) = 0) := by omega
          have RB : Hid (1 ≤ j ∧ j < m ∧ m ≤ N) := Lib.hid (by omega)
          clear q1 q2 q4 q5 q6 q7 q8 hca hcp hce hcd
          go_upto_region 12 with fail
          go_region
          have G := G.drew
          have T := own_drew T
          generalize wr.drew = wB at *
          go_wp2
          go_roundw
          case rel => exact ⟨j + 1, by omega, by omega, by go_num, by rw [HO.out.2], by rw [HO.out.1], G, T⟩
          case measure => simp [intOf]; omega
        · obtain rfl : j = m := by omega
          have E : Hid (owk j j = acs j) := Lib.hid (ow_end j (by omega) hj1)
          have HX : Hid (prf acs j ++ [acs j] = prf acs (j + 1)) := Lib.hid (by rw [prf_succ])
          have ba := (t_bd j (by omega))
          have F := fc_at j (by omega) hj1
          have Fb := fc_bd j (by omega)
          have Fb2 := fc_bd (j + 1) (by omega)
          rw [E.out]
          generalize acs j = a at *
          have hz := T.size
          have RB : Hid (1 ≤ j ∧ j ≤ N) := Lib.hid (by omega)
          clear hlt2 hlt hc hc2 hc3
          by_cases h1 : 1 < j
          · have F2 := F.2 (by omega)
            have W1 : IntKind.i64.wrap ((j : Int) - 1) = ((j - 1 : Nat) : Int) := (IntWalk.i64_in _ (by omega)).trans (by omega)
            rw [show (j : Int) - 1 = ((j - 1 : Nat) : Int) by omega] at F2
            obtain ⟨d, hd⟩ : ∃ d, j - 1 = d := ⟨_, rfl⟩
            rw [hd] at W1 F2
            obtain ⟨f2, hf2⟩ : ∃ f, fck (j + 1) = f := ⟨_, rfl⟩
            have HF := Lib.hid hf2
            rw [hf2] at F2 Fb2
            have X1 : IntKind.i64.wrap (fck j * (d : Int)) = f2 := by rw [← F2]; exact IntWalk.i64_in _ (by omega)
            have Y1 := (wrapE _).symm.trans X1
            have F3 := F2.symm
            have X9 : IntKind.i64.wrap f2 = f2 := IntWalk.i64_in _ (by omega)
            have Y9 := (wrapE _).symm.trans X9
            clear F F2 Fb Fb2 hd hf2
            generalize fck j = f at *
            go_wp2_with (at_builtin; refine app64 rfl _ _ rfl w4.heap.size wr (.slice (some ⟨g, 0, none⟩) j cap) (prf acs j) a rfl G wr.heap.size rfl rfl (by rw [prf_len]; have := RB.out; omega) hz ?_; intro v' w2 hG2 hb2)
            go_roundw
            case rel => exact ⟨j + 1, by omega, by have := RB.out; omega, by go_num, by rw [HF.out], by rw [← HX.out]; exact hG2, T.trans hb2⟩
            case measure => have := RB.out; simp [intOf]; omega
          · have F2 : Hid (fck (j + 1) = fck j) := Lib.hid (F.1 (by omega))
            clear F Fb Fb2
            go_wp2_with (at_builtin; refine app64 rfl _ _ rfl w4.heap.size wr (.slice (some ⟨g, 0, none⟩) j cap) (prf acs j) a rfl G wr.heap.size rfl rfl (by rw [prf_len]; have := RB.out; omega) hz ?_; intro v' w2 hG2 hb2)
            go_roundw
            case rel => exact ⟨j + 1, by have := RB.out; omega, by have := RB.out; omega, by go_num, by rw [F2.out], by rw [← HX.out]; exact hG2, T.trans hb2⟩
            case measure => have := RB.out; simp [intOf]; omega
    · obtain rfl : m = N + 1 := by omega
      obtain ⟨c1, -⟩ := hc N (by omega)
      rw [prf_at (by omega)] at c1
      have ba := t_bd N (by omega)
      obtain ⟨e1, hf0⟩ := HE.out
      have Fb := fc_bd (N + 1) (by omega)
      have hs : 0 ≤ s ∧ s ≤ 30496435200 := by
        rw [← e1]
        exact ⟨Int.tdiv_nonneg (by omega) (by omega), Int.le_trans (Int.tdiv_le_self _ (by omega)) (by omega)⟩
      have X5 : IntKind.i64.wrap ((acs N).tdiv (fck (N + 1))) = s := by rw [e1]; exact IntWalk.i64_in _ (by omega)
      have Y5 := (wrapE _).symm.trans X5
      have X1 : IntKind.i64.wrap s = s := IntWalk.i64_in _ (by omega)
      have Y6 := (wrapE _).symm.trans X1
      clear hlt ba Fb hc hc2 hc3
      have E1 := e1
      go_wp2
      go_ret2
      exact ⟨rfl, own_trans T4 T⟩
theorem lawSub_walk (n : Int) (_ : I64 n) (w : World) : Calls Try.prog 5 #[(.int .i64 n)] w fun e w' => e = .returned (.bool true) ∧ Below w.heap.size w w' := by
  by_cases h : 1 ≤ n ∧ n ≤ 12
  · obtain ⟨N, rfl⟩ : ∃ N : Nat, n = (N : Int) := ⟨n.toNat, by omega⟩
    exact lawCountSubgroups_of _ _ _ (fun w => specSub_yes N _ rfl (by omega) (by omega) w) (fun w => implSub_yes N (by omega) (by omega) w) w
  · have hn : inR n 1 12 = false := decide_eq_false h
    exact lawCountSubgroups_of _ _ _ (fun w => specSub_no n hn w) (fun w => implSub_no n hn w) w
end Go.Proofs.Ytdcomnnpnhinfaa
