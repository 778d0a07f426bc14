/- impl.ValuesOf: contracts. -/
import Derived.Test.YtfpgdbdgglbleaaVm
import Derived.Test.YtfpgdbdgglbleaaVs
import Derived.Test.YtfpgdbdgglbleaaRet
import Derived.Test.YtfpgdbdgglbleaaFm
namespace Go.Proofs.Ytfpgdbdgglbleaa
open Go.ChangeShapes Go.WideShapes Go.ChangeAt Go.RowKit

set_option maxHeartbeats 1000000 in
theorem implVO_no (a b c n : Int) (h : isQ a b c = false) (w : World) : Calls Try.prog 29 #[(.agg #[.int .i64 a, .int .i64 b, .int .i64 c]), (.int .i64 n)] w (RetS [] 1 w) := by
  have H := Lib.hid h
  clear h
  go_enter Try.func29, Try.ntmps29
  go_wp2_with fail
  refine (implIsQ_is false _ _ _ H.out _).mono ?_
  rintro e w1 ⟨rfl, hb1⟩
  go_wp2
  go_ret2
  exact ⟨_, rfl, Sl.nil _ _ _ (Nat.le_refl _), by repeat (first | with_reducible exact own_refl _ | with_reducible assumption | with_reducible apply own_alloc | with_reducible apply own_drewN | with_reducible apply own_drew | ((with_reducible refine own_setCell ?_ ?_ _); rotate_left; focus (first | (simp; done) | (simp; omega))) | (with_reducible (refine own_trans ?_ (by assumption))))⟩
set_option maxHeartbeats 1000000 in
theorem implVO_range (a b c n : Int) (h : isQ a b c = true) (hn : ¬ (0 ≤ n ∧ n ≤ 10)) (w : World) : Calls Try.prog 29 #[(.agg #[.int .i64 a, .int .i64 b, .int .i64 c]), (.int .i64 n)] w (RetS [] 2 w) := by
  have H := Lib.hid h
  clear h
  rcases (show n < 0 ∨ (0 ≤ n ∧ 10 < n) by omega) with hn | ⟨hn, hn2⟩
  all_goals
    go_enter Try.func29, Try.ntmps29
    go_wp2_with fail
    refine (implIsQ_is true _ _ _ H.out _).mono ?_
    rintro e w1 ⟨rfl, hb1⟩
    go_wp2
    go_ret2
    exact ⟨_, rfl, Sl.nil _ _ _ (Nat.le_refl _), by repeat (first | with_reducible exact own_refl _ | with_reducible assumption | with_reducible apply own_alloc | with_reducible apply own_drewN | with_reducible apply own_drew | ((with_reducible refine own_setCell ?_ ?_ _); rotate_left; focus (first | (simp; done) | (simp; omega))) | (with_reducible (refine own_trans ?_ (by assumption))))⟩
set_option maxRecDepth 100000 in
set_option maxHeartbeats 4000000 in
theorem implVO_yes (a b c n : Int) (N m : Nat) (h : isQ a b c = true) (hN : (N : Int) = n) (hn : n ≤ 10) (hm : m = 2 * N + 1) (w : World) : Calls Try.prog 29 #[(.agg #[.int .i64 a, .int .i64 b, .int .i64 c]), (.int .i64 n)] w (RetS (valuesV a b c N) 0 w) := by
  have H := Lib.hid h
  have HN := Lib.hid hN
  have HM := Lib.hid (show (m : Int) = 2 * n + 1 ∧ m ≤ 21 by omega)
  have HMN := Lib.hid hm
  have hn0 : 0 ≤ n := by omega
  clear h hN hm
  go_enter Try.func29, Try.ntmps29
  go_wp2_with fail
  refine (implIsQ_is true _ _ _ H.out _).mono ?_
  rintro e w1 ⟨rfl, hb1⟩
  have T1 : Below w.heap.size w w1 := by repeat (first | with_reducible exact own_refl _ | with_reducible assumption | with_reducible apply own_alloc | with_reducible apply own_drewN | with_reducible apply own_drew | ((with_reducible refine own_setCell ?_ ?_ _); rotate_left; focus (first | (simp; done) | (simp; omega))) | (with_reducible (refine own_trans ?_ (by assumption))))
  have B1 : Box w1 w.heap.size [.int .i64 a, .int .i64 b, .int .i64 c] := Box.below (Box.new _ _ _) hb1
  have hz1 := B1.1
  go_wp2
  go_loopw [6, 7] (fun v x wr => ∃ i : Nat, i ≤ m ∧ x = (.int .i64 (-n + (i : Int))) ∧ Below w.heap.size w wr ∧ Box wr w.heap.size [.int .i64 a, .int .i64 b, .int .i64 c] ∧ w.heap.size + 1 ≤ wr.heap.size ∧ Gr wr (w.heap.size + 1) v (rowsV a b c n (-n) m i)) (fun _ x _ => (n + 1 - intOf x).toNat)
  case atStart => exact ⟨0, Nat.zero_le _, by simp, T1, B1, hz1, Gr.nil _ _⟩
  case round =>
    obtain ⟨i, hi, rfl, T, BF, hz, hG⟩ := hrel
    obtain ⟨xs, hxs⟩ : ∃ xs, rowsV a b c n (-n) m i = xs := ⟨_, rfl⟩
    have HXS := Lib.hid hxs
    rw [hxs] at hG
    have hlen : Hid (xs.length ≤ 441) := Lib.hid (by
      rw [← hxs, rowsV_len]
      have := HM.out.2
      have h2 : i * m ≤ 21 * 21 := Nat.mul_le_mul (by omega) this
      omega)
    clear hxs
    obtain ⟨x, hx⟩ : ∃ x : Int, -n + (i : Int) = x := ⟨_, rfl⟩
    have HX := Lib.hid hx
    have hxb : -10 ≤ x ∧ x ≤ 11 := by have := HM.out; omega
    rw [hx]
    clear hx
    by_cases hlt : x ≤ n
    · go_wp2
      go_loopw [6, 8] (fun v y wr => ∃ j : Nat, j ≤ m ∧ y = (.int .i64 (-n + (j : Int))) ∧ Below w.heap.size w wr ∧ Box wr w.heap.size [.int .i64 a, .int .i64 b, .int .i64 c] ∧ w.heap.size + 1 ≤ wr.heap.size ∧ Gr wr (w.heap.size + 1) v (xs ++ rowV a b c n x j)) (fun _ y _ => (n + 1 - intOf y).toNat)
      case atStart => exact ⟨0, Nat.zero_le _, by simp, T, BF, hz, by simpa [rowV] using hG⟩
      case round =>
        obtain ⟨j, hj, rfl, T2, B2, hz2, hG2⟩ := hrel
        obtain ⟨ys, hys⟩ : ∃ ys, xs ++ rowV a b c n x j = ys := ⟨_, rfl⟩
        have HYS := Lib.hid hys
        rw [hys] at hG2
        have hlen2 : ys.length ≤ 500 := by
          have h1 := hlen.out
          have h2 := HM.out.2
          rw [← hys, List.length_append, rowV_len]; omega
        clear hys
        obtain ⟨y, hy⟩ : ∃ y : Int, -n + (j : Int) = y := ⟨_, rfl⟩
        have HY := Lib.hid hy
        have hyb : -10 ≤ y ∧ y ≤ 11 := by have := HM.out; omega
        rw [hy]
        clear hy
        by_cases hlt2 : y ≤ n
        · obtain ⟨v, hv⟩ : ∃ v, vq a b c x y = v := ⟨_, rfl⟩
          have HV := Lib.hid hv
          have HC := Lib.hid (fun w => valueAt_is v a b c x y hv (isQ_fe H.out).1 (isQ_fe H.out).2.1 (isQ_fe H.out).2.2.1 (by unfold FE; omega) (by unfold FE; omega) w)
          clear hv
          obtain ⟨_, _, _, _, _, _, _⟩ := B2.three
          obtain ⟨ad, cap, hvs⟩ := hG2.shape
          subst hvs
          go_wp2_with fail
          refine (HC.out _).mono ?_
          rintro e w3 ⟨rfl, hb3⟩
          have T3 := own_trans T2 hb3
          have B3 := B2.below hb3
          have hG3 := hG2.own hb3
          have hz3 : w.heap.size + 1 ≤ w3.heap.size := Nat.le_trans hz2 hb3.size
          go_wp2_with (at_builtin; refine app64 rfl _ _ rfl (w.heap.size + 1) _ (.slice ad ys.length cap) ys v rfl hG3 _ rfl rfl (by omega) hz3 ?_; intro v' w4 hG4 hb4)
          go_roundw
          case rel =>
            have e1 : ys ++ [v] = xs ++ rowV a b c n x (j + 1) := by rw [rowV_succ, ← HYS.out, ← HV.out, ← HY.out]; simp
            have h1 := HM.out
            have h2 := HY.out
            exact ⟨j + 1, by omega, by simp; omega, T3.trans (hb4.mono (by omega)), B3.low hb4 (by omega), Nat.le_trans hz3 hb4.size, e1 ▸ hG4⟩
          case measure => simp [intOf]; omega
        · have hjm : j = m := by have h1 := HM.out; have h2 := HY.out; omega
          go_wp2
          go_roundw
          case rel =>
            have h1 := HM.out
            have h2 := HX.out
            have e1 : ys = rowsV a b c n (-n) m (i + 1) := by rw [rowsV_succ, HXS.out, h2, ← HYS.out, hjm]
            exact ⟨i + 1, by omega, by simp; omega, T2, B2, hz2, e1 ▸ hG2⟩
          case measure => simp [intOf]; omega
    · have him : i = m := by have h1 := HM.out; have h2 := HX.out; omega
      have HE : Hid (Lib.compact (xs.mergeSort fun x y => decide (x ≤ y)) = valuesV a b c N) := Lib.hid (by
        rw [← HXS.out, him, HMN.out, ← HN.out]
        exact values_impl a b c N)
      have hne : xs ≠ [] := by
        intro e
        have h1 := rowsV_len a b c n (-n) m i
        rw [HXS.out, e, him, HMN.out] at h1
        simp at h1
      obtain ⟨ad, cap, hvs⟩ := hG.shape
      subst hvs
      have hl := hlen.out
      have HSo := Lib.hid (fun w0 g hL => sort_gr (.slice ad xs.length cap) xs (w.heap.size + 1) w0 g hne (by omega) hL)
      clear him
      go_wp2_with fail
      refine (HSo.out _ hG hz).mono ?_
      rintro e w2 ⟨rfl, hG2, hb2⟩
      have hl2 : (xs.mergeSort fun x y => decide (x ≤ y)).length = xs.length := List.length_mergeSort _
      have hne2 : (xs.mergeSort fun x y => decide (x ≤ y)) ≠ [] := by
        intro e
        rw [e] at hl2
        exact hne (List.length_eq_zero_iff.1 hl2.symm)
      have HCo := Lib.hid (fun w0 g => compact_gr (.slice ad xs.length cap) _ (w.heap.size + 1) w0 g hne2 (by omega))
      clear hl2 hne2 hne
      go_wp2_with fail
      refine (HCo.out _ hG2).mono ?_
      rintro e w3 ⟨v', rfl, hG3, hb3⟩
      rw [HE.out] at hG3
      go_wp2
      go_ret2
      exact ⟨_, rfl, Sl.weak hG3.sl (by omega), (T.trans (hb2.mono (by omega))).trans (hb3.mono (by omega))⟩
end Go.Proofs.Ytfpgdbdgglbleaa
