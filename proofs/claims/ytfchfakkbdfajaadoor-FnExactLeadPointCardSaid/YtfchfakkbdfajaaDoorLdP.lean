/- LeadPoint: both sides. -/
import Derived.Test.YtfchfakkbdfajaaDoorLdB
import Derived.Test.YtfchfakkbdfajaaDoorAcPt
import Derived.Test.YtfchfakkbdfajaaDoorMow
import Derived.Test.YtfchfakkbdfajaaDoorLet
import Derived.Test.YtfchfakkbdfajaaDoorWord
namespace Go.Proofs.YtfchfakkbdfajaaDoor
open Go.ChangeShapes Go.WideShapes Go.ChangeAt Go.RowKit

/-- a word of letters, not too long -/
noncomputable def wd (bs : ByteArray) : Bool := decide (bs.size ≤ 200) && (spell (ltA esWord) bs.data.toList).isSome
theorem spell_ltr : ∀ {l : List UInt8} {ms : List Mat}, spell (ltA esWord) l = some ms → ∀ c ∈ l, Ltr c
  | [], _, _, c, hc => by simp at hc
  | d :: r, ms, h, c, hc => by
    rw [spell] at h
    have hd : ltA esWord (byteK d) = wordM d := rfl
    rw [hd] at h
    rcases h1 : wordM d with _ | m
    · rw [h1] at h; simp at h
    · rcases h2 : spell (ltA esWord) r with _ | ms'
      · rw [h1, h2] at h; simp at h
      · rcases List.mem_cons.1 hc with rfl | hc
        · refine Classical.byContradiction fun hn => ?_
          unfold Ltr at hn
          rw [wordM_no (fun e => hn (.inl e)) (fun e => hn (.inr (.inl e))) (fun e => hn (.inr (.inr (.inl e)))) (fun e => hn (.inr (.inr (.inr (.inl e))))) (fun e => hn (.inr (.inr (.inr (.inr e)))))] at h1
          cases h1
        · exact spell_ltr h2 c hc
theorem wd_is {bs : ByteArray} (h : wd bs = true) : bs.size ≤ 200 ∧ ∃ ms, spell (ltA esWord) bs.data.toList = some ms := by
  rw [wd, Bool.and_eq_true] at h
  exact ⟨of_decide_eq_true h.1, Option.isSome_iff_exists.1 h.2⟩
theorem wd_ltr {bs : ByteArray} (h : wd bs = true) : ∀ k (hk : k < bs.size), Ltr bs[k] := fun k hk => by
  obtain ⟨_, ms, h2⟩ := wd_is h
  refine spell_ltr h2 _ ?_
  have hk2 : k < bs.data.toList.length := by rw [str_len]; exact hk
  rw [← str_at bs k hk hk2]
  exact List.getElem_mem hk2
noncomputable def lpC (s t : List Int) (bs : ByteArray) (i : Int) : Int := if isA s t then (if wd bs && decide (0 ≤ i ∧ i < (s.length : Int)) then 0 else 2) else 1
noncomputable def lpV (s t : List Int) (bs : ByteArray) (i : Int) : Int := if lpC s t bs i = 0 then ((stW s t s.length bs.data.toList i.toNat : Nat) : Int) else 0
def RetLP (v k : Int) (w : World) (e : Ending) (w' : World) : Prop := e = .returned (.tuple #[(.int .i64 v), (.int .i64 k)]) ∧ Below w.heap.size w w'
/-- whether a text is a word, told by the program's map -/
theorem letters_wd (bs : ByteArray) (hb : bs.size ≤ 9223372036854775807) (b n : Nat) (w : World) (hL : LMn w 52 5 b (ltA esWord) n) :
    Calls Tryd.prog 27 #[.string bs, (.int .i64 200), .map (some b)] w fun e w' => (∃ v, e = .returned (.tuple #[v, .bool (wd bs)])) ∧ Below w.heap.size w w' := by
  by_cases h : bs.size ≤ 200
  · refine (letters_any bs 200 (by omega) (by omega) _ _ rfl b n w hL).mono fun e w' ⟨h1, h2⟩ => ⟨?_, h2⟩
    rcases ho : spell (ltA esWord) bs.data.toList with _ | ms
    · rw [ho] at h1
      have e1 : wd bs = false := by simp [wd, ho]
      rw [e1]
      exact ⟨_, h1.none⟩
    · rw [ho] at h1
      have e1 : wd bs = true := by simp [wd, ho, h]
      rw [e1]
      obtain ⟨g, cap, h3, _⟩ := h1.some
      exact ⟨_, h3⟩
  · have e1 : wd bs = false := by simp [wd, h]
    rw [e1]
    refine (letters_long bs 200 (by omega) (.map (some b)) w).mono fun e w' ⟨h1, h2⟩ => ⟨⟨_, h1.none⟩, h2⟩
set_option maxHeartbeats 4000000 in
theorem LPi_is (s t : List Int) (hsl : s.length ≤ 9223372036854775807) (bs : ByteArray) (hbs : bs.size ≤ 9223372036854775807) (i : Int) (u : Value) (w : World) (hu : Ac w u s t) (hid : Idn w) (hmx : MxS w) :
    Calls Tryd.prog 10 #[u, .string bs, (.int .i64 i)] w (RetLP (lpV s t bs i) (lpC s t bs i) w) := by
  have HI := Lib.hid (isA_at u s t hsl w hu)
  rcases hA : isA s t with _ | _
  · have hc : lpC s t bs i = 1 := by simp [lpC, hA]
    have hv : lpV s t bs i = 0 := by simp [lpV, hc]
    rw [hA] at HI
    rw [hc, hv]
    obtain ⟨ad, c, ad', c', rfl⟩ := hu.shape
    clear hu hA hc hv hid hmx
    go_enter Tryd.func10, Tryd.ntmps10
    go_wp2_with fail
    refine (HI.out _ (by repeat (first | with_reducible exact own_refl _ | with_reducible assumption | with_reducible apply own_alloc | with_reducible apply own_drewN | with_reducible apply own_drew | ((with_reducible refine own_setCell ?_ ?_ _); rotate_left; focus (first | (simp; done) | (simp; omega))) | (with_reducible (refine own_trans ?_ (by assumption)))))).mono ?_
    rintro e w2 ⟨rfl, hb2⟩
    go_wp2
    go_ret2
    exact ⟨rfl, by repeat (first | with_reducible exact own_refl _ | with_reducible assumption | with_reducible apply own_alloc | with_reducible apply own_drewN | with_reducible apply own_drew | ((with_reducible refine own_setCell ?_ ?_ _); rotate_left; focus (first | (simp; done) | (simp; omega))) | (with_reducible (refine own_trans ?_ (by assumption))))⟩
  · have ia := isA_is hA
    have HW := Lib.hid (fun w' (h : Below w.heap.size w w') => wordL_any w' (Rd.below hid h) (Rd.below hmx h))
    have HLt := Lib.hid (letters_wd bs hbs)
    have HP := Lib.hid (fun b hb w' (h : Below w.heap.size w w') => hasP_is u s t s.length rfl i b hb w' (hu.below h))
    rw [hA] at HI
    rcases hw : wd bs with _ | _
    · have hc : lpC s t bs i = 2 := by simp [lpC, hA, hw]
      have hv : lpV s t bs i = 0 := by simp [lpV, hc]
      rw [hw] at HLt
      rw [hc, hv]
      obtain ⟨ad, c, ad', c', rfl⟩ := hu.shape
      clear hu hA hc hv hid hmx ia hw
      generalize s.length = n at *
      generalize t.length = m at *
      go_enter Tryd.func10, Tryd.ntmps10
      go_wp2_with fail
      refine (HI.out _ (by repeat (first | with_reducible exact own_refl _ | with_reducible assumption | with_reducible apply own_alloc | with_reducible apply own_drewN | with_reducible apply own_drew | ((with_reducible refine own_setCell ?_ ?_ _); rotate_left; focus (first | (simp; done) | (simp; omega))) | (with_reducible (refine own_trans ?_ (by assumption)))))).mono ?_
      rintro e w2 ⟨rfl, hb2⟩
      have T2 : Below w.heap.size w w2 := by repeat (first | with_reducible exact own_refl _ | with_reducible assumption | with_reducible apply own_alloc | with_reducible apply own_drewN | with_reducible apply own_drew | ((with_reducible refine own_setCell ?_ ?_ _); rotate_left; focus (first | (simp; done) | (simp; omega))) | (with_reducible (refine own_trans ?_ (by assumption))))
      go_wp2_with fail
      refine (HW.out _ T2).mono ?_
      rintro e w3 ⟨⟨b, k, rfl, hL⟩, hb3⟩
      have T3 := own_trans T2 hb3
      go_wp2_with fail
      refine (HLt.out _ _ _ hL).mono ?_
      rintro e w4 ⟨⟨v, rfl⟩, hb4⟩
      have T4 := own_trans T3 hb4
      go_wp2
      go_ret2
      exact ⟨rfl, T4⟩
    · rw [hw] at HLt
      by_cases hr : 0 ≤ i ∧ i < (s.length : Int)
      · obtain ⟨j, rfl⟩ : ∃ j : Nat, i = j := ⟨i.toNat, by omega⟩
        have hc : lpC s t bs (j : Int) = 0 := by simp only [lpC, hA, hw, if_true, Bool.true_and]; rw [if_pos (decide_eq_true hr)]
        have hv : lpV s t bs (j : Int) = ((stW s t s.length bs.data.toList j : Nat) : Int) := by simp [lpV, hc]
        have HP := Lib.hid (HP.out true (decide_eq_true hr))
        have h200 := (wd_is hw).1
        have HLd : Hid (∀ w', Below w.heap.size w w' → Calls Tryd.prog 30 #[u, .string bs, (.int .i64 ((j : Int)))] w' fun e w'' => e = .returned (.int .i64 (((stW s t s.length bs.data.toList j : Nat) : Int))) ∧ Below w'.heap.size w' w'') := Lib.hid (fun w' h => by
          obtain ⟨x, y, rfl, hx, hy⟩ := hu.below h
          exact lead_is x y s t s.length (by have := ia.n72; omega) ia.pS ia.pT bs (wd_ltr hw) (by omega) j (by omega) w' hx hy)
        rw [hc, hv]
        generalize stW s t s.length bs.data.toList j = r at *
        obtain ⟨ad, c, ad', c', rfl⟩ := hu.shape
        clear hu hA hc hv hid hmx ia hw hr
        generalize s.length = n at *
        generalize t.length = m at *
        go_enter Tryd.func10, Tryd.ntmps10
        go_wp2_with fail
        refine (HI.out _ (by repeat (first | with_reducible exact own_refl _ | with_reducible assumption | with_reducible apply own_alloc | with_reducible apply own_drewN | with_reducible apply own_drew | ((with_reducible refine own_setCell ?_ ?_ _); rotate_left; focus (first | (simp; done) | (simp; omega))) | (with_reducible (refine own_trans ?_ (by assumption)))))).mono ?_
        rintro e w2 ⟨rfl, hb2⟩
        have T2 : Below w.heap.size w w2 := by repeat (first | with_reducible exact own_refl _ | with_reducible assumption | with_reducible apply own_alloc | with_reducible apply own_drewN | with_reducible apply own_drew | ((with_reducible refine own_setCell ?_ ?_ _); rotate_left; focus (first | (simp; done) | (simp; omega))) | (with_reducible (refine own_trans ?_ (by assumption))))
        have Bw2_0 : Box w2 (w.heap.size) [.slice ad n c, .slice ad' m c'] := by refine Box.below ?_ hb2; repeat (first | with_reducible assumption | with_reducible exact Box.new _ _ _ | (with_reducible refine Box.newAt ?_ _ _; (simp; done)) | with_reducible apply Box.alloc | with_reducible apply Box.drewN | with_reducible apply Box.drew)
        obtain ⟨_, _, _, _, _⟩ := Bw2_0.two
        go_wp2_with fail
        refine (HW.out _ T2).mono ?_
        rintro e w3 ⟨⟨b, k, rfl, hL⟩, hb3⟩
        have T3 := own_trans T2 hb3
        go_wp2_with fail
        refine (HLt.out _ _ _ hL).mono ?_
        rintro e w4 ⟨⟨v, rfl⟩, hb4⟩
        have T4 := own_trans T3 hb4
        have B4 := (Bw2_0.below hb3).below hb4
        obtain ⟨-, b0, b1, -, -⟩ := B4.two
        clear hb2 hb3 hb4 hL
        go_wp2_with fail
        refine (HP.out _ T4).mono ?_
        rintro e w5 ⟨rfl, hb5⟩
        have T5 := own_trans T4 hb5
        have B5 := B4.below hb5
        obtain ⟨-, c0, c1, -, -⟩ := B5.two
        go_wp2_with fail
        refine (HLd.out _ T5).mono ?_
        rintro e w6 ⟨rfl, hb6⟩
        go_wp2
        go_ret2
        exact ⟨rfl, own_trans T5 hb6⟩
      · have hc : lpC s t bs i = 2 := by simp only [lpC, hA, hw, if_true, Bool.true_and]; rw [if_neg (by simpa using hr)]
        have hv : lpV s t bs i = 0 := by simp [lpV, hc]
        have HP := Lib.hid (HP.out false (decide_eq_false hr))
        rw [hc, hv]
        obtain ⟨ad, c, ad', c', rfl⟩ := hu.shape
        clear hu hA hc hv hid hmx ia hw hr
        generalize s.length = n at *
        generalize t.length = m at *
        go_enter Tryd.func10, Tryd.ntmps10
        go_wp2_with fail
        refine (HI.out _ (by repeat (first | with_reducible exact own_refl _ | with_reducible assumption | with_reducible apply own_alloc | with_reducible apply own_drewN | with_reducible apply own_drew | ((with_reducible refine own_setCell ?_ ?_ _); rotate_left; focus (first | (simp; done) | (simp; omega))) | (with_reducible (refine own_trans ?_ (by assumption)))))).mono ?_
        rintro e w2 ⟨rfl, hb2⟩
        have T2 : Below w.heap.size w w2 := by repeat (first | with_reducible exact own_refl _ | with_reducible assumption | with_reducible apply own_alloc | with_reducible apply own_drewN | with_reducible apply own_drew | ((with_reducible refine own_setCell ?_ ?_ _); rotate_left; focus (first | (simp; done) | (simp; omega))) | (with_reducible (refine own_trans ?_ (by assumption))))
        have Bw2_0 : Box w2 (w.heap.size) [.slice ad n c, .slice ad' m c'] := by refine Box.below ?_ hb2; repeat (first | with_reducible assumption | with_reducible exact Box.new _ _ _ | (with_reducible refine Box.newAt ?_ _ _; (simp; done)) | with_reducible apply Box.alloc | with_reducible apply Box.drewN | with_reducible apply Box.drew)
        obtain ⟨_, _, _, _, _⟩ := Bw2_0.two
        go_wp2_with fail
        refine (HW.out _ T2).mono ?_
        rintro e w3 ⟨⟨b, k, rfl, hL⟩, hb3⟩
        have T3 := own_trans T2 hb3
        go_wp2_with fail
        refine (HLt.out _ _ _ hL).mono ?_
        rintro e w4 ⟨⟨v, rfl⟩, hb4⟩
        have T4 := own_trans T3 hb4
        have B4 := (Bw2_0.below hb3).below hb4
        obtain ⟨-, b0, b1, -, -⟩ := B4.two
        clear hb2 hb3 hb4 hL
        go_wp2_with fail
        refine (HP.out _ T4).mono ?_
        rintro e w5 ⟨rfl, hb5⟩
        go_wp2
        go_ret2
        exact ⟨rfl, own_trans T4 hb5⟩
end Go.Proofs.YtfchfakkbdfajaaDoor
