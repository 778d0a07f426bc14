/- PositiveWord: the model's side. -/
import Derived.Test.YtpglcpolbhlekaaDoorPwd
namespace Go.Proofs.YtpglcpolbhlekaaDoor
open Go.ChangeShapes Go.WideShapes Go.ChangeAt Go.RowKit

set_option maxHeartbeats 1000000 in
theorem specPwd_bad (a b c d k : Int) (hk : (k == 0) = false) (hR : ∀ w : World, Calls Tryd.prog 35 #[(.agg #[.int .i64 a, .int .i64 b, .int .i64 c, .int .i64 d])] w fun e w' => e = .returned (.int .i64 k) ∧ Below w.heap.size w w') (w : World) : Calls Tryd.prog 16 #[(.agg #[.int .i64 a, .int .i64 b, .int .i64 c, .int .i64 d])] w (RetT [] k w) := by
  have HR := Lib.hid hR
  have hk' : (k != 0) = true := by simpa using hk
  clear hR
  go_enter Tryd.func16, Tryd.ntmps16
  go_wp2_with fail
  refine (HR.out _).mono ?_
  rintro e w1 ⟨rfl, hb1⟩
  go_wp2
  go_ret2
  exact ⟨rfl, by repeat (first | with_reducible exact own_refl _ | with_reducible assumption | with_reducible apply own_alloc | with_reducible apply own_drewN | with_reducible apply own_drew | ((with_reducible refine own_setCell ?_ ?_ _); rotate_left; focus (first | (simp; done) | (simp; omega))) | (with_reducible (refine own_trans ?_ (by assumption))))⟩
theorem snocB (Z : ByteArray) (c : UInt8) : (Z ++ (⟨#[c]⟩ : ByteArray)).data.toList = Z.data.toList ++ [c] := by
  simp [ByteArray.data_append]
set_option maxRecDepth 100000 in
set_option maxHeartbeats 4000000 in
theorem specPwd_yes (a b c d : Int) (xs : List Int) (hx : ∀ x ∈ xs, 0 ≤ x) (hn : xs.length ≤ 10000000000) (S : Int) (hS : sumI xs = S) (hS1 : S ≤ 1000000000000) (l : List UInt8) (kd : Int) (hl : (200 < S ∧ l = [] ∧ kd = 3) ∨ (S ≤ 200 ∧ l = spellB [84] [76] xs ∧ kd = 0)) (hG : ∀ w : World, Calls Tryd.prog 35 #[(.agg #[.int .i64 a, .int .i64 b, .int .i64 c, .int .i64 d])] w fun e w' => e = .returned (.int .i64 0) ∧ Below w.heap.size w w')
    (hR : ∀ w : World, Calls Tryd.prog 36 #[(.agg #[.int .i64 a, .int .i64 b, .int .i64 c, .int .i64 d])] w fun e w' => ∃ v, e = .returned v ∧ Gr w' (w.heap.size + 1) v xs ∧ Below w.heap.size w w') (w : World) : Calls Tryd.prog 16 #[(.agg #[.int .i64 a, .int .i64 b, .int .i64 c, .int .i64 d])] w (RetT l kd w) := by
  have HG := Lib.hid hG
  have HR := Lib.hid hR
  have HS := Lib.hid hS
  have HN := Lib.hid (fun k => sumI_le hx k)
  have HP := Lib.hid (fun k => getD_nonneg hx k)
  have HLL := Lib.hid hl
  have HD := Lib.hid (fun k => sumI_nonneg (xs := xs.drop k) fun x hx' => hx x (List.mem_of_mem_drop hx'))
  clear hR hx hS hG hl
  go_enter Tryd.func16, Tryd.ntmps16
  go_wp2_with fail
  refine (HG.out _).mono ?_
  rintro e w1 ⟨rfl, hb1⟩
  have B1 : Box w1 w.heap.size [.int .i64 a, .int .i64 b, .int .i64 c, .int .i64 d] := Box.below (Box.new _ _ _) hb1
  have T1 : Below w.heap.size w w1 := by repeat (first | with_reducible exact own_refl _ | with_reducible assumption | with_reducible apply own_alloc | with_reducible apply own_drewN | with_reducible apply own_drew | ((with_reducible refine own_setCell ?_ ?_ _); rotate_left; focus (first | (simp; done) | (simp; omega))) | (with_reducible (refine own_trans ?_ (by assumption))))
  obtain ⟨_, _, _, _, _, _, _, _, _⟩ := B1.four
  go_wp2_with fail
  refine (HR.out _).mono ?_
  rintro e w2 ⟨v, rfl, hGr, hb2⟩
  have hs := hGr.sl
  obtain ⟨hu, ad, cap, rfl, hc⟩ := hs
  have HC := Lib.hid hc
  have T2 := own_trans T1 hb2
  clear hGr hc hu hb1 hb2 B1 T1
  go_wp2
  go_loop [6, 7] (fun s i => ∃ k : Nat, k ≤ xs.length ∧ s = (.int .i64 (sumI (xs.take k))) ∧ i = (.int .i64 k)) (fun _ i => xs.length - (intOf i).toNat)
  case atStart => exact ⟨0, Nat.zero_le _, by simp [sumI], rfl⟩
  case round =>
    obtain ⟨k, hk, rfl, rfl⟩ := hrel
    by_cases hlt : k < xs.length
    · obtain ⟨g, off, rfl, _, _, hcc⟩ := HC.out (by omega)
      obtain ⟨y, hy⟩ : ∃ y, xs.getD k 0 = y := ⟨_, rfl⟩
      obtain ⟨t, ht⟩ : ∃ t, sumI (xs.take k) = t := ⟨_, rfl⟩
      have c0 := (hcc k hlt).1
      rw [hy] at c0
      have b1 := HN.out k
      have b2 := HN.out (k + 1)
      have b3 := HP.out k
      have hst := sumI_take hlt
      rw [hy, ht] at hst
      rw [hy] at b3
      rw [hst, HS.out] at b2
      rw [ht] at b1 ⊢
      have HST := Lib.hid hst
      clear hst hy ht hcc
      go_wp2
      go_round
      case rel => exact ⟨k + 1, by omega, by rw [HST.out], by go_num⟩
      case measure => simp [intOf]; omega
    · have hke : k = xs.length := by omega
      have HE := Lib.hid (show sumI (xs.take k) = S by rw [hke, List.take_length]; exact HS.out)
      rw [HE.out]
      clear hke
      by_cases hbig : 200 < S
      · have HF := Lib.hid (show l = [] ∧ kd = 3 by
          rcases HLL.out with h | h
          · exact ⟨h.2.1, h.2.2⟩
          · omega)
        go_wp2
        go_ret2
        exact ⟨by rw [HF.out.1, HF.out.2]; rfl, T2⟩
      · have HF := Lib.hid (show l = spellB [84] [76] xs ∧ kd = 0 by
          rcases HLL.out with h | h
          · omega
          · exact ⟨h.2.1, h.2.2⟩)
        have hS2 : S ≤ 200 := by omega
        go_wp2
        go_loopw [8, 9] (fun o i wr => ∃ (j : Nat) (f1 s1 done : List UInt8) (Z : ByteArray), j ≤ xs.length ∧ o = .string Z ∧ i = (.int .i64 j) ∧ Hid (Z.data.toList = done) ∧ Hid ((j % 2 = 0 ∧ f1 = [84] ∧ s1 = [76]) ∨ (j % 2 = 1 ∧ f1 = [76] ∧ s1 = [84])) ∧
          Hid (spellB [84] [76] xs = done ++ spellB f1 s1 (xs.drop j)) ∧ Hid ((done.length : Int) + 2 * sumI (xs.drop j) ≤ 400) ∧ w2 = wr) (fun _ i _ => xs.length - (intOf i).toNat)
        case atStart => exact ⟨0, [84], [76], [], ⟨#[]⟩, Nat.zero_le _, rfl, rfl, Lib.hid rfl, Lib.hid (.inl ⟨rfl, rfl, rfl⟩), Lib.hid rfl, Lib.hid (by have := HS.out; simp; omega), rfl⟩
        case round =>
          obtain ⟨j, f1, s1, done, Z, hj, rfl, rfl, HZ, HPAR, HW, HB, rfl⟩ := hrel
          by_cases hlt : j < xs.length
          · obtain ⟨g, off, rfl, _, _, hcc⟩ := HC.out (by omega)
            obtain ⟨y, hy⟩ : ∃ y, xs.getD j 0 = y := ⟨_, rfl⟩
            have c0 := (hcc j hlt).1
            rw [hy] at c0
            have b3 := HP.out j
            rw [hy] at b3
            clear hcc
            have hdr := sumI_drop hlt
            rw [hy] at hdr
            have HSD := Lib.hid (show spellB f1 s1 (xs.drop j) = Lib.repeatL f1 y.toNat ++ spellB s1 f1 (xs.drop (j + 1)) by rw [spellB_drop hlt, hy])
            have b4 := HD.out (j + 1)
            have b5 := HB.out
            have hy2 : y ≤ 200 := by omega
            have HFL := Lib.hid (show f1.length = 1 by rcases HPAR.out with h | h <;> rw [h.2.1] <;> rfl)
            have HB' := Lib.hid (show ((done ++ Lib.repeatL f1 y.toNat).length : Int) + 2 * sumI (xs.drop (j + 1)) ≤ 400 by
              rw [List.length_append, Lib.repeatL_length, HFL.out]; omega)
            clear b4 b5 hdr hy
            rcases (show j % 2 = 0 ∨ j % 2 = 1 by omega) with hpar | hpar
            · have q1 : (j : Int).tmod 2 = 0 := by rw [Int.tmod_eq_emod_of_nonneg (by omega)]; omega
              have HF1 := Lib.hid (show f1 = [84] ∧ s1 = [76] by
                rcases HPAR.out with h | h
                · exact ⟨h.2.1, h.2.2⟩
                · omega)
              have HPAR' := Lib.hid (show (((j + 1) % 2 = 0 ∧ s1 = [84] ∧ f1 = [76]) ∨ ((j + 1) % 2 = 1 ∧ s1 = [76] ∧ f1 = [84])) from .inr ⟨by omega, HF1.out.2, HF1.out.1⟩)
              clear hpar
              go_wp2
              go_loopw [8, 10] (fun o q wr => ∃ (n : Nat) (Z' : ByteArray), n ≤ y.toNat ∧ o = .string Z' ∧ q = (.int .i64 n) ∧ Hid (Z'.data.toList = done ++ Lib.repeatL f1 n) ∧ w2 = wr) (fun _ q _ => y.toNat - (intOf q).toNat)
              case atStart => exact ⟨0, Z, Nat.zero_le _, rfl, rfl, Lib.hid (by rw [HZ.out]; simp [Lib.repeatL]), rfl⟩
              case round =>
                obtain ⟨n, Z', hn', rfl, rfl, HZ', rfl⟩ := hrel
                by_cases hlt2 : n < y.toNat
                · have hlt3 : (n : Int) < y := by omega
                  have hzs : Z'.size ≤ 1000 := by
                    rw [Lib.size_eq, HZ'.out, List.length_append, Lib.repeatL_length, HFL.out]
                    have := HB.out
                    have := HD.out j
                    omega
                  go_wp2
                  go_roundw
                  case rel => exact ⟨n + 1, _, by omega, rfl, by go_num, Lib.hid (by rw [snocB, HZ'.out, HF1.out.1, Lib.repeatL_add, Lib.repeatL_one, List.append_assoc]), trivial⟩
                  case measure => simp [intOf]; omega
                · have hlt3 : ¬ ((n : Int) < y) := by omega
                  have HE2 := Lib.hid (show n = y.toNat by omega)
                  go_wp2
                  go_roundw
                  case rel => exact ⟨j + 1, s1, f1, _, Z', by omega, rfl, by go_num, HZ', HPAR', Lib.hid (by rw [HW.out, HSD.out, HE2.out, List.append_assoc]), Lib.hid (by rw [HE2.out]; exact HB'.out), trivial⟩
                  case measure => simp [intOf]; omega
            · have q1 : (j : Int).tmod 2 = 1 := by rw [Int.tmod_eq_emod_of_nonneg (by omega)]; omega
              have HF1 := Lib.hid (show f1 = [76] ∧ s1 = [84] by
                rcases HPAR.out with h | h
                · omega
                · exact ⟨h.2.1, h.2.2⟩)
              have HPAR' := Lib.hid (show (((j + 1) % 2 = 0 ∧ s1 = [84] ∧ f1 = [76]) ∨ ((j + 1) % 2 = 1 ∧ s1 = [76] ∧ f1 = [84])) from .inl ⟨by omega, HF1.out.2, HF1.out.1⟩)
              clear hpar
              go_wp2
              go_loopw [8, 10] (fun o q wr => ∃ (n : Nat) (Z' : ByteArray), n ≤ y.toNat ∧ o = .string Z' ∧ q = (.int .i64 n) ∧ Hid (Z'.data.toList = done ++ Lib.repeatL f1 n) ∧ w2 = wr) (fun _ q _ => y.toNat - (intOf q).toNat)
              case atStart => exact ⟨0, Z, Nat.zero_le _, rfl, rfl, Lib.hid (by rw [HZ.out]; simp [Lib.repeatL]), rfl⟩
              case round =>
                obtain ⟨n, Z', hn', rfl, rfl, HZ', rfl⟩ := hrel
                by_cases hlt2 : n < y.toNat
                · have hlt3 : (n : Int) < y := by omega
                  have hzs : Z'.size ≤ 1000 := by
                    rw [Lib.size_eq, HZ'.out, List.length_append, Lib.repeatL_length, HFL.out]
                    have := HB.out
                    have := HD.out j
                    omega
                  go_wp2
                  go_roundw
                  case rel => exact ⟨n + 1, _, by omega, rfl, by go_num, Lib.hid (by rw [snocB, HZ'.out, HF1.out.1, Lib.repeatL_add, Lib.repeatL_one, List.append_assoc]), trivial⟩
                  case measure => simp [intOf]; omega
                · have hlt3 : ¬ ((n : Int) < y) := by omega
                  have HE2 := Lib.hid (show n = y.toNat by omega)
                  go_wp2
                  go_roundw
                  case rel => exact ⟨j + 1, s1, f1, _, Z', by omega, rfl, by go_num, HZ', HPAR', Lib.hid (by rw [HW.out, HSD.out, HE2.out, List.append_assoc]), Lib.hid (by rw [HE2.out]; exact HB'.out), trivial⟩
                  case measure => simp [intOf]; omega
          · have hje : j = xs.length := by omega
            have HE3 := Lib.hid (show Z = ⟨(spellB [84] [76] xs).toArray⟩ by
              have h1 := HW.out
              rw [hje, List.drop_length, spellB, List.append_nil] at h1
              rw [h1, ← HZ.out])
            clear hje
            go_wp2
            go_ret2
            exact ⟨by rw [HE3.out, HF.out.1, HF.out.2]; rfl, T2⟩
end Go.Proofs.YtpglcpolbhlekaaDoor
