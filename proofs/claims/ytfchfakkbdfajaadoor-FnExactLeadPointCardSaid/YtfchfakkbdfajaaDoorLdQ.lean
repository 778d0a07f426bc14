/- LeadPoint: the model. -/
import Derived.Test.YtfchfakkbdfajaaDoorLdP
namespace Go.Proofs.YtfchfakkbdfajaaDoor
open Go.ChangeShapes Go.WideShapes Go.ChangeAt Go.RowKit

theorem ltr_some {c : UInt8} (h : Ltr c) : wordM c ≠ none := by
  rcases h with rfl | rfl | rfl | rfl | rfl
  · rw [wordM_S]; simp
  · rw [wordM_T]; simp
  · rw [wordM_t]; simp
  · rw [wordM_L]; simp
  · rw [wordM_l]; simp
theorem spell_bad {bs : ByteArray} {k : Nat} (hk : k < bs.size) (h : wordM bs[k] = none) : spell (ltA esWord) bs.data.toList = none := by
  rcases ho : spell (ltA esWord) bs.data.toList with _ | ms
  · rfl
  · have hk2 : k < bs.data.toList.length := by rw [str_len]; exact hk
    exact absurd h (ltr_some (spell_ltr ho _ (by rw [← str_at bs k hk hk2]; exact List.getElem_mem hk2)))
theorem lp_pt {s t : List Int} {bs : ByteArray} {i : Int} (h : ptCode s t i ≠ 0) : lpC s t bs i = ptCode s t i ∧ lpV s t bs i = 0 := by
  have e : lpC s t bs i = ptCode s t i := by
    unfold lpC ptCode at *
    rcases hA : isA s t with _ | _
    · rfl
    · simp only [hA, if_true] at h ⊢
      by_cases hr : 0 ≤ i ∧ i < (s.length : Int)
      · rw [if_pos hr] at h; exact absurd rfl h
      · rw [if_neg hr, if_neg (by simp [hr])]
  exact ⟨e, by rw [lpV, e, if_neg h]⟩
theorem lp_no {s t : List Int} {bs : ByteArray} {i : Int} (h : ptCode s t i = 0) (hw : wd bs = false) : lpC s t bs i = 2 ∧ lpV s t bs i = 0 := by
  have hA : isA s t = true := by
    rcases hA : isA s t with _ | _
    · simp [ptCode, hA] at h
    · rfl
  have e : lpC s t bs i = 2 := by simp [lpC, hA, hw]
  exact ⟨e, by simp [lpV, e]⟩
theorem ret_ii {a b c d : Int} (h : a = b) (k : c = d) : Ending.returned (.tuple #[(.int .i64 a), (.int .i64 c)]) = Ending.returned (.tuple #[(.int .i64 b), (.int .i64 d)]) := by rw [h, k]
set_option maxHeartbeats 8000000 in
theorem LPs_is (s t : List Int) (hsl : s.length ≤ 9223372036854775807) (bs : ByteArray) (hbs : bs.size ≤ 9223372036854775807) (i : Int) (u : Value) (w : World) (hu : Ac w u s t) :
    Calls Tryd.prog 8 #[u, .string bs, (.int .i64 i)] w (RetLP (lpV s t bs i) (lpC s t bs i) w) := by
  have HI := Lib.hid (fun w' (h : Below w.heap.size w w') => l10Code_is u s t hsl i w' (hu.below h))
  by_cases hc : ptCode s t i = 0
  · have hA : isA s t = true := by
      rcases hA : isA s t with _ | _
      · simp [ptCode, hA] at hc
      · rfl
    have hr : 0 ≤ i ∧ i < (s.length : Int) := by
      simp only [ptCode, hA, if_true] at hc
      by_cases h : 0 ≤ i ∧ i < (s.length : Int)
      · exact h
      · rw [if_neg h] at hc; omega
    have ia := isA_is hA
    have HNO := Lib.hid (fun hw => lp_no (bs := bs) hc hw)
    rw [hc] at HI
    by_cases hl : bs.size ≤ 200
    · obtain ⟨j, rfl⟩ : ∃ j : Nat, i = j := ⟨i.toNat, by omega⟩
      have HYES : Hid (wd bs = true → lpC s t bs (j : Int) = 0 ∧ lpV s t bs (j : Int) = ((stW s t s.length (bs.data.toList.drop 0) j : Nat) : Int)) := Lib.hid (fun hw => by
        have e : lpC s t bs (j : Int) = 0 := by simp only [lpC, hA, hw, if_true, Bool.true_and]; rw [if_pos (decide_eq_true hr)]
        exact ⟨e, by simp [lpV, e]⟩)
      have HWY : Hid (∀ ms, spell (ltA esWord) bs.data.toList = some ms → wd bs = true) := Lib.hid (fun ms h => by simp [wd, hl, h])
      have HWN : Hid (spell (ltA esWord) bs.data.toList = none → wd bs = false) := Lib.hid (fun h => by simp [wd, h])
      have HLt := Lib.hid (fun (ch : UInt8) (hch : Ltr ch) (i : Nat) (hi : i < s.length) w' (h : Below w.heap.size w w') => show Calls Tryd.prog 24 #[u, .int .u8 ((ch.toNat : Nat) : Int), (.int .i64 ((i : Int)))] w' (fun e w'' => e = .returned (.int .i64 (((stL s t s.length ch i : Nat) : Int))) ∧ Below w'.heap.size w' w'') from by
        obtain ⟨x, y, rfl, hx, hy⟩ := hu.below h
        exact l10Letter_is x y s t s.length ia.pS ia.pT ch hch i hi w' hx hy)
      have HST := Lib.hid (fun (c : UInt8) (j : Nat) (h : j < s.length) => stL_lt ia.pS ia.pT c h)
      have hj : j < s.length := by omega
      obtain ⟨ad, c, ad', c', rfl⟩ := hu.shape
      generalize hgn : s.length = n at *
      generalize t.length = m at *
      generalize lpC s t bs (j : Int) = lc at *
      generalize lpV s t bs (j : Int) = lv at *
      clear hu hA hc hr ia hgn
      go_enter Tryd.func8, Tryd.ntmps8
      go_wp2_with fail
      refine (HI.out _ (by repeat (first | with_reducible exact own_refl _ | with_reducible assumption | with_reducible apply own_alloc | with_reducible apply own_drewN | with_reducible apply own_drew | ((with_reducible refine own_setCell ?_ ?_ _); rotate_left; focus (first | (simp; done) | (simp; omega))) | (with_reducible (refine own_trans ?_ (by assumption)))))).mono ?_
      rintro e w2 ⟨rfl, hb2⟩
      have Bw2_0 : Box w2 (w.heap.size) [.slice ad n c, .slice ad' m c'] := by refine Box.below ?_ hb2; repeat (first | with_reducible assumption | with_reducible exact Box.new _ _ _ | (with_reducible refine Box.newAt ?_ _ _; (simp; done)) | with_reducible apply Box.alloc | with_reducible apply Box.drewN | with_reducible apply Box.drew)
      obtain ⟨_, _, _, _, _⟩ := Bw2_0.two
      have T2 : Below w.heap.size w w2 := by repeat (first | with_reducible exact own_refl _ | with_reducible assumption | with_reducible apply own_alloc | with_reducible apply own_drewN | with_reducible apply own_drew | ((with_reducible refine own_setCell ?_ ?_ _); rotate_left; focus (first | (simp; done) | (simp; omega))) | (with_reducible (refine own_trans ?_ (by assumption))))
      clear hb2
      go_wp2
      go_loopw [8, 9] (fun x y wr => ∃ k : Nat, k ≤ bs.size ∧ y = (.int .i64 ((k : Int))) ∧ ((x = (.int .i64 0) ∧ Hid (∃ ms, spell (ltA esWord) (bs.data.toList.take k) = some ms)) ∨ (x = (.int .i64 2) ∧ Hid (spell (ltA esWord) bs.data.toList = none))) ∧ Below w.heap.size w wr ∧ Box wr w.heap.size [.slice ad n c, .slice ad' m c']) (fun _ y _ => bs.size - (intOf y).toNat)
      case atStart => exact ⟨0, Nat.zero_le _, rfl, .inl ⟨rfl, Lib.hid ⟨[], rfl⟩⟩, T2, Bw2_0⟩
      case round =>
        obtain ⟨k, hk, rfl, hx, T, B⟩ := hrel
        clear T2 Bw2_0
        obtain ⟨-, b0, b1, -, -⟩ := B.two
        rcases hx with ⟨rfl, HM⟩ | ⟨rfl, HNn⟩
        · by_cases hlt : k < bs.size
          · obtain ⟨x, hix, HX⟩ := idx_at bs k hlt
            rcases hf : wordM bs[k] with _ | mt
            · have HC := Lib.hid (letter_no bs[k] x HX.out hf)
              have HBad := Lib.hid (spell_bad hlt hf)
              clear hf HX
              go_wp2_with fail
              refine (HC.out _).mono ?_
              rintro e w3 ⟨rfl, hb3⟩
              have T3 := own_trans T hb3
              have B3 := B.below hb3
              clear hb3
              go_wp2
              go_roundw
              case rel => exact ⟨k + 1, by omega, by go_num, .inr ⟨rfl, HBad⟩, own_alloc T3 _, B3.alloc _⟩
              case measure => simp [intOf]; omega
            · have HC := Lib.hid (letter_yes bs[k] mt x HX.out hf)
              have HS : Hid (∃ ms, spell (ltA esWord) (bs.data.toList.take (k + 1)) = some ms) := Lib.hid (by
                obtain ⟨ms, h⟩ := HM.out
                exact ⟨_, spell_step _ bs k hlt ms mt h hf⟩)
              clear hf HX
              go_wp2_with fail
              refine (HC.out _).mono ?_
              rintro e w3 ⟨rfl, hb3⟩
              have T3 := own_trans T hb3
              have B3 := B.below hb3
              clear hb3
              go_wp2
              go_roundw
              case rel => exact ⟨k + 1, by omega, by go_num, .inl ⟨rfl, HS⟩, own_alloc T3 _, B3.alloc _⟩
              case measure => simp [intOf]; omega
          · have hw : wd bs = true := by
              obtain ⟨ms, h⟩ := HM.out
              exact HWY.out _ (spell_all _ bs k (by omega) ms h)
            have HLtr := Lib.hid (wd_ltr hw)
            have HY2 := Lib.hid (HYES.out hw)
            have HRes : Hid (lv = ((stW s t n (bs.data.toList.drop 0) j : Nat) : Int) ∧ lc = 0) := Lib.hid ⟨HY2.out.2, HY2.out.1⟩
            obtain ⟨res, hres⟩ : ∃ res, stW s t n (bs.data.toList.drop 0) j = res := ⟨_, rfl⟩
            rw [hres] at HRes
            have HW1 : Hid (stW s t n (bs.data.toList.drop 0) j = res) := Lib.hid hres
            clear hres
            clear HY2 HNO HYES HWY HWN HM
            generalize wr = wo at *
            go_wp2
            go_loopw [2, 12] (fun x y wr => ∃ (k q : Nat), k ≤ bs.size ∧ y = (.int .i64 ((k : Int))) ∧ x = (.int .i64 ((q : Int))) ∧ q < n ∧ Hid (stW s t n (bs.data.toList.drop k) q = res) ∧ Below w.heap.size w wr ∧ Box wr w.heap.size [.slice ad n c, .slice ad' m c']) (fun _ y _ => bs.size - (intOf y).toNat)
            case atStart => exact ⟨0, j, Nat.zero_le _, rfl, rfl, hj, HW1, T, B⟩
            case round =>
              clear T B b0 b1
              obtain ⟨k, q, hk, rfl, rfl, hq, HK, T, B⟩ := hrel
              obtain ⟨-, b0, b1, -, -⟩ := B.two
              by_cases hlt : k < bs.size
              · have hxl : k < bs.data.toList.length := by rw [str_len]; exact hlt
                have HD : Hid (stW s t n (bs.data.toList.drop (k + 1)) (stL s t n bs[k] q) = res) := Lib.hid (by
                  have h := HK.out
                  rw [dropU_at hxl, str_at bs k hlt hxl] at h
                  exact h)
                have hq2 := HST.out bs[k] q hq
                have HC := Lib.hid (HLt.out bs[k] (HLtr.out k hlt) q hq)
                have hix := idx_str bs k hlt
                clear HK
                generalize stL s t n bs[k] q = q2 at *
                generalize ((bs[k].toNat : Nat) : Int) = ch at *
                go_wp2_with fail
                go_region_held3 (fun w' => w'.cell? ⟨w.heap.size, 0, none⟩ = some (.slice ad n c) ∧ w'.cell? ⟨w.heap.size, 1, none⟩ = some (.slice ad' m c')) (go_keep)
                  (first
                    | (go_at_call 24; (with_reducible refine (HC.out _ (own_drew T)).mono ?_); rintro e w4 ⟨rfl, hb4⟩; have T4 := own_trans (own_drew T) hb4; have B4 := (B.drew).below hb4; obtain ⟨-, c40, c41, -, -⟩ := B4.two; clear hb4))
                all_goals
                  go_wp2
                  go_roundw
                  case rel => exact ⟨k + 1, q2, by omega, by go_num, rfl, hq2, HD, T4, B4⟩
                  case measure => simp [intOf]; omega
              · have HE : Hid (((q : Nat) : Int) = lv) := Lib.hid (by
                  have h := HK.out
                  rw [List.drop_eq_nil_of_le (by rw [str_len]; omega)] at h
                  have h2 : q = res := h
                  rw [h2, HRes.out.1])
                go_wp2
                go_ret2
                exact ⟨ret_ii HE.out HRes.out.2.symm, T⟩
        · have HRes := Lib.hid (HNO.out (HWN.out HNn.out))
          by_cases hlt : k < bs.size
          · go_wp2
            go_ret2
            exact ⟨ret_ii HRes.out.2.symm HRes.out.1.symm, T⟩
          · go_wp2
            go_ret2
            exact ⟨ret_ii HRes.out.2.symm HRes.out.1.symm, T⟩
    · have HRes := Lib.hid (HNO.out (by simp [wd, hl]))
      have hl2 : 200 < (bs.size : Int) := by omega
      rw [HRes.out.1, HRes.out.2]
      obtain ⟨ad, c, ad', c', rfl⟩ := hu.shape
      generalize s.length = n at *
      generalize t.length = m at *
      clear hu hA hc hr ia hl HNO HRes
      go_enter Tryd.func8, Tryd.ntmps8
      go_wp2_with fail
      refine (HI.out _ (by repeat (first | with_reducible exact own_refl _ | with_reducible assumption | with_reducible apply own_alloc | with_reducible apply own_drewN | with_reducible apply own_drew | ((with_reducible refine own_setCell ?_ ?_ _); rotate_left; focus (first | (simp; done) | (simp; omega))) | (with_reducible (refine own_trans ?_ (by assumption)))))).mono ?_
      rintro e w2 ⟨rfl, hb2⟩
      have T2 : Below w.heap.size w w2 := by repeat (first | with_reducible exact own_refl _ | with_reducible assumption | with_reducible apply own_alloc | with_reducible apply own_drewN | with_reducible apply own_drew | ((with_reducible refine own_setCell ?_ ?_ _); rotate_left; focus (first | (simp; done) | (simp; omega))) | (with_reducible (refine own_trans ?_ (by assumption))))
      go_wp2
      go_loopw [8, 9] (fun x y wr => x = (.int .i64 2) ∧ y = (.int .i64 0) ∧ Below w.heap.size w wr) (fun _ _ _ => 0)
      case atStart => exact ⟨rfl, rfl, T2⟩
      case round =>
        obtain ⟨rfl, rfl, T⟩ := hrel
        go_wp2
        go_ret2
        exact ⟨rfl, T⟩
  · obtain ⟨e1, e2⟩ := lp_pt (bs := bs) hc
    rw [e1, e2]
    generalize ptCode s t i = kc at *
    obtain ⟨ad, c, ad', c', rfl⟩ := hu.shape
    generalize s.length = n at *
    generalize t.length = m at *
    clear hu e1 e2
    go_enter Tryd.func8, Tryd.ntmps8
    go_wp2_with fail
    refine (HI.out _ (by repeat (first | with_reducible exact own_refl _ | with_reducible assumption | with_reducible apply own_alloc | with_reducible apply own_drewN | with_reducible apply own_drew | ((with_reducible refine own_setCell ?_ ?_ _); rotate_left; focus (first | (simp; done) | (simp; omega))) | (with_reducible (refine own_trans ?_ (by assumption)))))).mono ?_
    rintro e w2 ⟨rfl, hb2⟩
    have T2 : Below w.heap.size w w2 := by repeat (first | with_reducible exact own_refl _ | with_reducible assumption | with_reducible apply own_alloc | with_reducible apply own_drewN | with_reducible apply own_drew | ((with_reducible refine own_setCell ?_ ?_ _); rotate_left; focus (first | (simp; done) | (simp; omega))) | (with_reducible (refine own_trans ?_ (by assumption))))
    go_wp2
    go_loopw [8, 9] (fun x y wr => x = (.int .i64 kc) ∧ y = (.int .i64 0) ∧ Below w.heap.size w wr) (fun _ _ _ => 0)
    case atStart => exact ⟨rfl, rfl, T2⟩
    case round =>
      obtain ⟨rfl, rfl, T⟩ := hrel
      by_cases hlt : 0 < bs.size
      · go_wp2
        go_ret2
        exact ⟨rfl, T⟩
      · go_wp2
        go_ret2
        exact ⟨rfl, T⟩
end Go.Proofs.YtfchfakkbdfajaaDoor
