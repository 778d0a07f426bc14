/- Free words: the model's free word of a matrix, walked. -/
import Derived.Test.YtfgbmddmmgipnaaDoorFwT
namespace Go.Proofs.YtfgbmddmmgipnaaDoor
open Go.ChangeShapes Go.WideShapes Go.ChangeAt Go.RowKit

theorem natAbs_max (c : Int) : (c < -c ∧ (c.natAbs : Int) = -c) ∨ (¬ c < -c ∧ (c.natAbs : Int) = c) := by omega
set_option maxRecDepth 100000 in
set_option maxHeartbeats 4000000 in
theorem l02Free_is (F : Nat) (a b c d : Int) (hp : Det a b c d) (hF : c.natAbs ≤ F) (hF2 : F ≤ 1000000000) (xs : List Int) (hxs : chL F a b c d = xs) (l : List UInt8) (r : Bool)
    (hl : (600 < absS xs ∧ l = [] ∧ r = false) ∨ (absS xs ≤ 600 ∧ l = (frW xs).bytes ∧ r = decide ((frW xs).len ≤ 200))) (w : World) :
    Calls Tryd.prog 21 #[(.agg #[.int .i64 a, .int .i64 b, .int .i64 c, .int .i64 d])] w fun e w' => e = .returned (.tuple #[.string ⟨l.toArray⟩, .bool r]) ∧ Below w.heap.size w w' := by
  have HCH := Lib.hid (fun w => specChain_any F a b c d hp hF hF2 w)
  have hn : xs.length ≤ 1000000001 := by rw [← hxs]; have := chL_len F a b c d; omega
  have HE := Lib.hid (show ∀ x ∈ xs, Ent x by rw [← hxs]; exact chL_bnd F hp hF)
  have HL3 := Lib.hid (show xs.length ≤ absS xs + 2 by rw [← hxs]; exact chL_len3 F a b c d)
  rw [hxs] at HCH
  have HLL := Lib.hid hl
  clear hp hF hF2 hxs hl
  go_enter Tryd.func21, Tryd.ntmps21
  go_wp2_with fail
  refine (HCH.out _).mono ?_
  rintro e w2 ⟨v, rfl, hGr, hb2⟩
  have hs := hGr.sl
  obtain ⟨hu, ad, cap, rfl, hc⟩ := hs
  have HC := Lib.hid hc
  have T2 : Below w.heap.size w w2 := by repeat (first | with_reducible exact own_refl _ | with_reducible assumption | with_reducible apply own_alloc | with_reducible apply own_drewN | with_reducible apply own_drew | ((with_reducible refine own_setCell ?_ ?_ _); rotate_left; focus (first | (simp; done) | (simp; omega))) | (with_reducible (refine own_trans ?_ (by assumption))))
  clear hGr hc hu hb2
  go_wp2
  go_loopw [6, 7] (fun s i wr => ∃ k : Nat, k ≤ xs.length ∧ s = (.int .i64 ((absS (xs.take k) : Int))) ∧ i = (.int .i64 k) ∧ Below w2.heap.size w2 wr) (fun _ i _ => xs.length - (intOf i).toNat)
  case atStart => exact ⟨0, Nat.zero_le _, by simp [absS], rfl, own_refl _⟩
  case round =>
    obtain ⟨k, hk, rfl, rfl, T⟩ := hrel
    by_cases hlt : k < xs.length
    · obtain ⟨g, off, rfl, _, hgu, hcc⟩ := HC.out (by omega)
      obtain ⟨y, hy⟩ : ∃ y, xs.getD k 0 = y := ⟨_, rfl⟩
      obtain ⟨t, ht⟩ : ∃ t, absS (xs.take k) = t := ⟨_, rfl⟩
      have c0 := (T.cell (p := ⟨g, off + k, none⟩) (by omega)).trans (hcc k hlt).1
      rw [hy] at c0
      have b1 := getD_ent HE.out k
      have b2 := absS_bnd (xs := xs.take k) (fun x hx => HE.out x (List.mem_of_mem_take hx))
      rw [List.length_take, Nat.min_eq_left hk] at b2
      have hst := absS_take hlt
      rw [hy, ht] at hst
      rw [hy] at b1
      rw [ht] at b2 ⊢
      unfold Ent at b1
      have HST := Lib.hid hst
      have hmx := natAbs_max y
      clear hst hy ht hcc
      have w0 : IntKind.i64.wrap (-y) = -y := IntWalk.i64_in _ (by omega)
      rcases hmx with ⟨hl1, hkc⟩ | ⟨hl1, hkc⟩
      · have w1 : IntKind.i64.wrap ((t : Int) + -y) = (t : Int) + -y := IntWalk.i64_in _ (by omega)
        have HKC := Lib.hid hkc
        clear hkc
        go_upto_region 6 with fail
        go_quiet (fail)
        go_wp2
        go_roundw
        case rel => exact ⟨k + 1, by omega, by rw [HST.out]; have := HKC.out; go_num, by go_num, by repeat (first | with_reducible exact own_refl _ | with_reducible assumption | with_reducible apply own_alloc | with_reducible apply own_drewN | with_reducible apply own_drew | ((with_reducible refine own_setCell ?_ ?_ _); rotate_left; focus (first | (simp; done) | (simp; omega))) | (with_reducible (refine own_trans ?_ (by assumption))))⟩
        case measure => simp [intOf]; omega
      · have w1 : IntKind.i64.wrap ((t : Int) + y) = (t : Int) + y := IntWalk.i64_in _ (by omega)
        have HKC := Lib.hid hkc
        clear hkc
        go_upto_region 6 with fail
        go_quiet (fail)
        go_wp2
        go_roundw
        case rel => exact ⟨k + 1, by omega, by rw [HST.out]; have := HKC.out; go_num, by go_num, by repeat (first | with_reducible exact own_refl _ | with_reducible assumption | with_reducible apply own_alloc | with_reducible apply own_drewN | with_reducible apply own_drew | ((with_reducible refine own_setCell ?_ ?_ _); rotate_left; focus (first | (simp; done) | (simp; omega))) | (with_reducible (refine own_trans ?_ (by assumption))))⟩
        case measure => simp [intOf]; omega
    · have hke : k = xs.length := by omega
      have hSe : absS (xs.take k) = absS xs := by rw [hke, List.take_length]
      rw [hSe]
      clear hke hSe
      by_cases hbig : 600 < absS xs
      · have HF := Lib.hid (show l = [] ∧ r = false by
          rcases HLL.out with h | h
          · exact ⟨h.2.1, h.2.2⟩
          · omega)
        obtain ⟨t, ht⟩ : ∃ t, absS xs = t := ⟨_, rfl⟩
        rw [ht] at hbig ⊢
        have hbig' : (600 : Int) < t := by omega
        clear ht hbig
        go_wp2
        go_ret2
        exact ⟨by rw [HF.out.1, HF.out.2]; rfl, own_trans T2 T⟩
      · have HF := Lib.hid (show l = (frW xs).bytes ∧ r = decide ((frW xs).len ≤ 200) by
          rcases HLL.out with h | h
          · omega
          · exact ⟨h.2.1, h.2.2⟩)
        have hX : xs.length ≤ 602 := by have := HL3.out; omega
        have HS6 := Lib.hid (show absS xs ≤ 600 by omega)
        obtain ⟨t, ht⟩ : ∃ t, absS xs = t := ⟨_, rfl⟩
        rw [ht] at hbig ⊢
        have hbig' : (t : Int) ≤ 600 := by omega
        clear ht hbig HLL HL3
        generalize hw3 : wr = w3 at T ⊢
        clear hw3
        go_wp2
        clear hlt hk hbig'
        go_loopw [8, 9] (fun v i wr => ∃ (k : Nat) (f : FW), k ≤ xs.length ∧ i = (.int .i64 k) ∧ Hid (frW xs = nxQ k f (xs.drop k)) ∧ Hid (f.len ≤ 2 * absS (xs.take k) + k) ∧ GrB wr w2.heap.size v (nums f.bytes) ∧ Below w2.heap.size w2 wr) (fun _ i _ => xs.length - (intOf i).toNat)
        case atStart => exact ⟨0, FW.one, Nat.zero_le _, rfl, Lib.hid (by
          unfold nxQ preS frW
          rw [List.drop_zero, if_pos rfl]
          split
          · rename_i h; rw [h]; rfl
          · rfl), Lib.hid (by simp [FW.one, FW.len]), GrB.madeCap (by first | rfl | (simp; done)) T.size rfl (by omega), by repeat (first | with_reducible exact own_refl _ | with_reducible assumption | with_reducible apply own_alloc | with_reducible apply own_drewN | with_reducible apply own_drew | ((with_reducible refine own_setCell ?_ ?_ _); rotate_left; focus (first | (simp; done) | (simp; omega))) | (with_reducible (refine own_trans ?_ (by assumption))))⟩
        case round =>
          clear T
          obtain ⟨k, f, hk, rfl, HNX, HB, hG, T⟩ := hrel
          obtain ⟨ad8, cap8, rfl⟩ := hG.shape
          by_cases hlt : k < xs.length
          · obtain ⟨g, off, rfl, _, hgu, hcc⟩ := HC.out (by omega)
            obtain ⟨y, hy⟩ : ∃ y, xs.getD k 0 = y := ⟨_, rfl⟩
            have c2 := (hcc k hlt).1
            rw [hy] at c2
            have hby := absS_get hlt
            rw [hy] at hby
            have hby2 := HS6.out
            have hst := absS_take hlt
            rw [hy] at hst
            have hle := absS_le (xs := xs) k
            have hB1 := HB.out
            have HNX2 := Lib.hid (show frW xs = nxQ (k + 1) (((preS k f).us y.toNat).sv (-y).toNat) (xs.drop (k + 1)) by rw [HNX.out, nxQ_step hlt, hy, step_two])
            have hpre : (preS k f).len ≤ f.len + 1 := by
              unfold preS
              split
              · omega
              · exact len_S f
            have HB2 := Lib.hid (show (((preS k f).us y.toNat).sv (-y).toNat).len ≤ 2 * absS (xs.take (k + 1)) + (k + 1) by
              have h1 := sv_le (-y).toNat ((preS k f).us y.toNat)
              have h2 := us_le y.toNat (preS k f)
              omega)
            have HB3 := Lib.hid (show (preS k f).len ≤ 2000 by omega)
            have hfl : f.len ≤ 2000 := by omega
            have hy6 : y.natAbs ≤ 600 := by omega
            clear hcc hy hby hby2 hst hle hB1 HNX HB hpre
            have c0 := (T.cell (p := ⟨g, off + k, none⟩) hgu).trans c2
            have HPRE : ∃ f1, preS k f = f1 ∧ ((k = 0 ∧ f1 = f) ∨ (0 < k ∧ f1 = f.putS)) := ⟨_, rfl, by
              unfold preS
              rcases Nat.eq_zero_or_pos k with h0 | h0
              · exact .inl ⟨h0, by rw [if_pos h0]⟩
              · exact .inr ⟨h0, by rw [if_neg (by omega)]⟩⟩
            obtain ⟨f1, hf1, hcase⟩ := HPRE
            rw [hf1] at HNX2 HB2 HB3
            clear hf1
            go_upto_if 45 with fail
            go_cut [8] (fun v wc => GrB wc w2.heap.size v (nums f1.bytes) ∧ Below w2.heap.size w2 wc)
            case first =>
              rcases hcase with ⟨hk0, rfl⟩ | ⟨hk0, rfl⟩
              · go_wp2
                go_meet
                exact ⟨hG, T⟩
              · go_wp2_with fail
                refine (put_S1 f (by omega) w2.heap.size _ _ hG T.size).mono ?_
                rintro e w5 ⟨v5, rfl, hG5, hb5⟩
                go_wp2
                go_meet
                exact ⟨hG5, T.trans hb5⟩
            case rest =>
              clear hG T hcase c0
              obtain ⟨hG, T⟩ := hcut
              obtain ⟨ad9, cap9, rfl⟩ := hG.shape
              generalize hwc : wc = wd at *
              clear hwc
              go_wp2
              go_loopw [8, 10] (fun v q wq => ∃ (j : Nat) (f2 : FW), j ≤ y.toNat ∧ q = (.int .i64 j) ∧ Hid (f2 = f1.us j) ∧ GrB wq w2.heap.size v (nums f2.bytes) ∧ Below w2.heap.size w2 wq) (fun _ q _ => y.toNat - (intOf q).toNat)
              case atStart => exact ⟨0, f1, Nat.zero_le _, rfl, Lib.hid rfl, hG, T⟩
              case round =>
                clear hG T
                obtain ⟨j, f2, hj, rfl, H2, hG, T⟩ := hrel
                obtain ⟨adA, capA, rfl⟩ := hG.shape
                have c0 := (T.cell (p := ⟨g, off + k, none⟩) hgu).trans c2
                by_cases hlt2 : (j : Int) < y
                · have hj1 : j < y.toNat := by omega
                  have hb1 : f2.len ≤ 4000 := by
                    have h1 := us_le j f1
                    rw [← H2.out] at h1
                    have := HB3.out
                    omega
                  have hb2 := len_X true f2
                  go_wp2_with fail
                  refine (put_U1 f2 (by omega) w2.heap.size _ _ hG T.size).mono ?_
                  rintro e w5 ⟨v5, rfl, hG5, hb5⟩
                  go_wp2_with fail
                  refine (put_S1 (f2.putX true) (by omega) w2.heap.size _ _ hG5 (Nat.le_trans T.size hb5.size)).mono ?_
                  rintro e w6 ⟨v6, rfl, hG6, hb6⟩
                  go_wp2
                  go_roundw
                  case rel => exact ⟨j + 1, _, by omega, by go_num, Lib.hid (by rw [us_next, ← H2.out]), hG6, (T.trans hb5).trans hb6⟩
                  case measure => simp [intOf]; omega
                · have HJ := Lib.hid (show f2 = f1.us y.toNat by rw [H2.out, show j = y.toNat by omega])
                  generalize hwq : wr = wq at *
                  clear hwq
                  go_wp2
                  go_loopw [8, 11] (fun v q wq => ∃ (j : Nat) (f3 : FW), j ≤ (-y).toNat ∧ q = (.int .i64 (-(j : Int))) ∧ Hid (f3 = f2.sv j) ∧ GrB wq w2.heap.size v (nums f3.bytes) ∧ Below w2.heap.size w2 wq) (fun _ q _ => (-y).toNat - (-(intOf q)).toNat)
                  case atStart => exact ⟨0, f2, Nat.zero_le _, rfl, Lib.hid rfl, hG, T⟩
                  case round =>
                    clear hG T c0
                    obtain ⟨i, f3, hi, rfl, H3, hG, T⟩ := hrel
                    obtain ⟨adB, capB, rfl⟩ := hG.shape
                    have c0 := (T.cell (p := ⟨g, off + k, none⟩) hgu).trans c2
                    by_cases hlt3 : y < -(i : Int)
                    · have hj1 : i < (-y).toNat := by omega
                      have hb1 : f3.len ≤ 6000 := by
                        have h1 := us_le y.toNat f1
                        have h2 := sv_le i f2
                        rw [← H3.out, HJ.out] at h2
                        have := HB3.out
                        omega
                      have hb2 := len_S f3
                      have w0 : IntKind.i64.wrap (-(i : Int) - 1) = -(i : Int) - 1 := IntWalk.i64_in _ (by omega)
                      go_wp2_with fail
                      refine (put_S1 f3 (by omega) w2.heap.size _ _ hG T.size).mono ?_
                      rintro e w5 ⟨v5, rfl, hG5, hb5⟩
                      go_wp2_with fail
                      refine (put_V1 f3.putS (by omega) w2.heap.size _ _ hG5 (Nat.le_trans T.size hb5.size)).mono ?_
                      rintro e w6 ⟨v6, rfl, hG6, hb6⟩
                      go_wp2
                      go_roundw
                      case rel => exact ⟨i + 1, _, by omega, by go_num, Lib.hid (by rw [sv_next, ← H3.out]), hG6, (T.trans hb5).trans hb6⟩
                      case measure => simp [intOf]; omega
                    · have HJ3 := Lib.hid (show f3 = (f1.us y.toNat).sv (-y).toNat by rw [H3.out, HJ.out, show i = (-y).toNat by omega])
                      go_wp2
                      go_roundw
                      case rel => exact ⟨k + 1, f3, by omega, by go_num, by rw [HJ3.out]; exact HNX2, by rw [HJ3.out]; exact HB2, hG, T⟩
                      case measure => simp [intOf]; omega
          · have hke : k = xs.length := by omega
            have HFW := Lib.hid (show frW xs = f by rw [HNX.out, hke, List.drop_length]; rfl)
            have hln : (nums f.bytes).length = f.len := by rw [nums, List.length_map, bytes_len]
            have HLN := Lib.hid hln
            have hcv := conv_gr hG
            clear hke hln HNX HB
            go_wp2
            go_ret2
            exact ⟨by rw [HF.out.1, HF.out.2, HFW.out, HLN.out]; simp; omega, own_trans T2 T⟩
end Go.Proofs.YtfgbmddmmgipnaaDoor
