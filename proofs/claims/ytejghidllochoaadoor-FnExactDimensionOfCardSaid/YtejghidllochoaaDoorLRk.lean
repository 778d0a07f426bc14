/- RankOf and DimensionOf: the model's contracts, and the walks of the laws. -/
import Derived.Test.YtejghidllochoaaDoorSpE
namespace Go.Proofs.YtejghidllochoaaDoor
open Go.ChangeShapes Go.WideShapes Go.ChangeAt Go.RowKit
open Ech (Sp Rw Stair)

theorem specRank_no (n p c : Int) (hc : lpC n p = c) (h0 : c ≠ 0) (w : World) : Calls Tryd.prog 15 #[(.int .i64 n), (.int .i64 p)] w fun e w' => e = .returned (.tuple #[(.int .i64 0), (.int .i64 c)]) ∧ Below w.heap.size w w' := by
  have HC := Lib.hid hc
  have hne : (c != 0) = true := by simpa using h0
  clear hc h0
  go_enter Tryd.func15, Tryd.ntmps15
  go_wp2_with fail
  refine (l08Prime_is n p 0 (by omega) _ _ (fun _ => []) (fun k h => by omega) c (by rw [mpC_0]; exact HC.out) _ (Mixes.nil _ _)).mono ?_
  rintro e w2 ⟨rfl, hb2⟩
  go_wp2
  go_ret2
  exact ⟨rfl, hb2⟩
theorem specRank_yes (n : Int) (p N : Nat) (hlv : lvC n = 0) (hp5 : Ech.fiveP p) (hN : (ln n).length = N) (w : World) :
    Calls Tryd.prog 15 #[(.int .i64 n), (.int .i64 ((p : Int)))] w fun e w' => ∃ E A, e = .returned (.tuple #[(.int .i64 ((A.length : Int))), (.int .i64 0)]) ∧ Red p N E A ∧ SPAN p n N (N + N) E ∧ Below w.heap.size w w' := by
  have HC := Lib.hid (lpC_of hlv hp5)
  obtain ⟨h1, h2, _, _⟩ := relN hlv
  have HL := Lib.hid (fun w => l06Line_is n h1 h2 w)
  have HR := Lib.hid (fun v L w hG => relations_is n hlv N hN v L w hG)
  have HD := Lib.hid (fun U v vs w hO => reduced_is n p N hlv hp5 hN U v vs w hO)
  clear hlv hp5 hN h1 h2
  go_enter Tryd.func15, Tryd.ntmps15
  go_wp2_with fail
  refine (l08Prime_is n p 0 (by omega) _ _ (fun _ => []) (fun k h => by omega) 0 (by rw [mpC_0]; exact HC.out) _ (Mixes.nil _ _)).mono ?_
  rintro e w2 ⟨rfl, hb2⟩
  go_wp2_with fail
  refine (HL.out _).mono ?_
  rintro e w3 ⟨v, rfl, hG3, hb3⟩
  go_wp2_with fail
  refine (HR.out _ _ _ hG3).mono ?_
  rintro e w4 ⟨v4, vs, rfl, hM4, hb4⟩
  go_wp2_with fail
  refine (HD.out _ _ _ _ hM4).mono ?_
  rintro e w5 ⟨r, rs, E, A, rfl, hG5, hRd, hSp, hb5⟩
  obtain ⟨adr, cpr, hv⟩ := hG5.shape
  rw [List.length_map] at hv
  subst hv
  have HRD := Lib.hid (And.intro hRd hSp)
  have hAl := hRd.len
  clear hRd hSp hG5 hM4 hG3
  go_wp2
  go_ret2
  exact ⟨E, A, rfl, HRD.out.1, HRD.out.2, own_trans hb2 (own_trans hb3 (own_trans hb4 hb5))⟩
/-- Both sides answer with one number. -/
theorem rank_both (n p : Int) : ∃ (k : Int) (P Q : Int → Prop),
    (∀ w : World, Calls Tryd.prog 15 #[(.int .i64 n), (.int .i64 p)] w fun e w2 => ∃ x, P x ∧ e = .returned (.tuple #[(.int .i64 x), (.int .i64 k)]) ∧ Below w.heap.size w w2) ∧
    (∀ w : World, Idn w → MxS w → Calls Tryd.prog 16 #[(.int .i64 n), (.int .i64 p)] w fun e w2 => ∃ x, Q x ∧ e = .returned (.tuple #[(.int .i64 x), (.int .i64 k)]) ∧ Below w.heap.size w w2) ∧ (∀ x y, P x → Q y → x = y) ∧ (∀ x, P x → 0 ≤ x ∧ x ≤ 72) ∧ (∀ x, Q x → 0 ≤ x ∧ x ≤ 72) ∧ (k = 0 → lpC n p = 0) := by
  by_cases h : lpC n p = 0
  · obtain ⟨hlv, p', rfl, hp5⟩ := lpC_0 h
    obtain ⟨_, _, h3, _⟩ := relN hlv
    refine ⟨0, fun x => ∃ E A, x = (A.length : Int) ∧ Red p' (ln n).length E A ∧ SPAN p' n (ln n).length ((ln n).length + (ln n).length) E, fun x => ∃ E, x = (cntE E (ln n).length : Int) ∧ SPAN p' n (ln n).length ((ln n).length + (ln n).length) E, fun w => ?_, fun w hid hmx => ?_, ?_, ?_, ?_, fun _ => h⟩
    · refine (specRank_yes n p' _ hlv hp5 rfl w).mono ?_
      rintro e w2 ⟨E, A, rfl, h1, h2, hb⟩
      exact ⟨_, ⟨E, A, rfl, h1, h2⟩, rfl, hb⟩
    · refine (implRank_yes n p' _ hlv hp5 rfl w hid hmx).mono ?_
      rintro e w2 ⟨E, rfl, h1, hb⟩
      exact ⟨_, ⟨E, rfl, h1⟩, rfl, hb⟩
    · rintro x y ⟨E', A, rfl, h1, h2⟩ ⟨E, rfl, h3⟩
      rw [rank_same hp5 h3 h2 h1]
    · rintro x ⟨E', A, rfl, h1, h2⟩
      have := h1.len
      omega
    · rintro x ⟨E, rfl, _⟩
      have := cntE_le E (ln n).length
      omega
  · refine ⟨lpC n p, fun x => x = 0, fun x => x = 0, fun w => ?_, fun w _ _ => ?_, fun x y hx hy => hx.trans hy.symm, fun x hx => by omega, fun x hx => by omega, fun e => absurd e h⟩
    · exact (specRank_no n p _ rfl h w).mono (by rintro e w2 ⟨rfl, hb⟩; exact ⟨0, rfl, rfl, hb⟩)
    · exact (implRank_no n p _ rfl h w).mono (by rintro e w2 ⟨rfl, hb⟩; exact ⟨0, rfl, rfl, hb⟩)
set_option maxHeartbeats 1000000 in
theorem lawRankOf_walk (n p : Int) (_ : I64 n) (_ : I64 p) (w : World) (hmx : MxS w) (hid : Idn w) :
    Calls Tryd.prog 4 #[(.int .i64 n), (.int .i64 p)] w fun e w' => e = .returned (.bool true) ∧ Below w.heap.size w w' := by
  have HM := Lib.hid (And.intro hmx hid)
  obtain ⟨k, P, Q, hS, hI, hPQ, hP, hQ, _⟩ := rank_both n p
  have HS := Lib.hid hS
  have HI := Lib.hid hI
  have HQ := Lib.hid hPQ
  clear hmx hid hS hI hPQ hP hQ
  go_enter Tryd.func4, Tryd.ntmps4
  go_wp2_with fail
  refine (HS.out _).mono ?_
  rintro e w2 ⟨x, hx, rfl, hb2⟩
  have HX := Lib.hid hx
  clear hx
  go_wp2_with fail
  refine (HI.out _ (Rd.below HM.out.2 hb2) (Rd.below HM.out.1 hb2)).mono ?_
  rintro e w3 ⟨y, hy, rfl, hb3⟩
  obtain rfl := HQ.out x y HX.out hy
  clear hy
  go_wp2
  go_ret
  exact ⟨rfl, own_trans hb2 hb3⟩
/-- what DimensionOf gives for a rank -/
def dimV (k n x : Int) : Int := if k = 0 then idx0 n - x else 0
theorem specDim_is (n p k : Int) (P : Int → Prop) (hR : ∀ w : World, Calls Tryd.prog 15 #[(.int .i64 n), (.int .i64 p)] w fun e w2 => ∃ x, P x ∧ e = .returned (.tuple #[(.int .i64 x), (.int .i64 k)]) ∧ Below w.heap.size w w2) (hP : ∀ x, P x → 0 ≤ x ∧ x ≤ 72) (hk : k = 0 → lpC n p = 0) (w : World) :
    Calls Tryd.prog 17 #[(.int .i64 n), (.int .i64 p)] w fun e w2 => ∃ x, P x ∧ e = .returned (.tuple #[(.int .i64 (dimV k n x)), (.int .i64 k)]) ∧ Below w.heap.size w w2 := by
  have HR := Lib.hid hR
  have HP := Lib.hid hP
  by_cases h : k = 0
  · subst h
    obtain ⟨hlv, _⟩ := lpC_0 (hk rfl)
    obtain ⟨h1, h72⟩ := lvC_0 hlv
    have HI := Lib.hid (fun w => specI0 n h1 w)
    have hi := (lvC_len hlv).1
    have hD : ∀ x, dimV 0 n x = idx0 n - x := fun x => by unfold dimV; rw [if_pos rfl]
    simp only [hD]
    generalize idx0 n = i at *
    have hi0 : 0 ≤ i ∧ i ≤ 72 := by omega
    clear hR hP hk hlv h1 h72 hi
    go_enter Tryd.func17, Tryd.ntmps17
    go_wp2_with fail
    refine (HR.out _).mono ?_
    rintro e w2 ⟨x, hx, rfl, hb2⟩
    have HX := Lib.hid hx
    have hxb := HP.out x hx
    have hw1 : IntKind.i64.wrap (i - x) = i - x := IntWalk.i64_in _ (by omega)
    clear hx
    go_wp2_with fail
    refine (HI.out _).mono ?_
    rintro e w3 ⟨rfl, hb3⟩
    go_wp2
    go_ret2
    exact ⟨x, HX.out, rfl, own_trans hb2 hb3⟩
  · have hne : (k != 0) = true := by simpa using h
    have H := Lib.hid h
    clear hR hP hk h
    go_enter Tryd.func17, Tryd.ntmps17
    go_wp2_with fail
    refine (HR.out _).mono ?_
    rintro e w2 ⟨x, hx, rfl, hb2⟩
    have HX := Lib.hid hx
    clear hx
    go_wp2
    go_ret2
    exact ⟨x, HX.out, by unfold dimV; rw [if_neg H.out]; rfl, hb2⟩
theorem implDim_is (n p k : Int) (P : Int → Prop) (hR : ∀ w : World, Idn w → MxS w → Calls Tryd.prog 16 #[(.int .i64 n), (.int .i64 p)] w fun e w2 => ∃ x, P x ∧ e = .returned (.tuple #[(.int .i64 x), (.int .i64 k)]) ∧ Below w.heap.size w w2) (hP : ∀ x, P x → 0 ≤ x ∧ x ≤ 72) (hk : k = 0 → lpC n p = 0) (w : World) (hid : Idn w) (hmx : MxS w) :
    Calls Tryd.prog 18 #[(.int .i64 n), (.int .i64 p)] w fun e w2 => ∃ x, P x ∧ e = .returned (.tuple #[(.int .i64 (dimV k n x)), (.int .i64 k)]) ∧ Below w.heap.size w w2 := by
  have HR := Lib.hid hR
  have HP := Lib.hid hP
  have HM := Lib.hid (And.intro hid hmx)
  by_cases h : k = 0
  · subst h
    obtain ⟨hlv, _⟩ := lpC_0 (hk rfl)
    obtain ⟨h1, h72⟩ := lvC_0 hlv
    have HI := Lib.hid (fun w => implI0 n h1 w)
    have hi := (lvC_len hlv).1
    have hD : ∀ x, dimV 0 n x = idx0 n - x := fun x => by unfold dimV; rw [if_pos rfl]
    simp only [hD]
    generalize idx0 n = i at *
    have hi0 : 0 ≤ i ∧ i ≤ 72 := by omega
    clear hR hP hk hlv h1 h72 hi hid hmx
    go_enter Tryd.func18, Tryd.ntmps18
    go_wp2_with fail
    refine (HR.out _ HM.out.1 HM.out.2).mono ?_
    rintro e w2 ⟨x, hx, rfl, hb2⟩
    have HX := Lib.hid hx
    have hxb := HP.out x hx
    have hw1 : IntKind.i64.wrap (i - x) = i - x := IntWalk.i64_in _ (by omega)
    clear hx
    go_wp2_with fail
    refine (HI.out _).mono ?_
    rintro e w3 ⟨rfl, hb3⟩
    go_wp2
    go_ret2
    exact ⟨x, HX.out, rfl, own_trans hb2 hb3⟩
  · have hne : (k != 0) = true := by simpa using h
    have H := Lib.hid h
    clear hR hP hk h hid hmx
    go_enter Tryd.func18, Tryd.ntmps18
    go_wp2_with fail
    refine (HR.out _ HM.out.1 HM.out.2).mono ?_
    rintro e w2 ⟨x, hx, rfl, hb2⟩
    have HX := Lib.hid hx
    clear hx
    go_wp2
    go_ret2
    exact ⟨x, HX.out, by unfold dimV; rw [if_neg H.out]; rfl, hb2⟩
set_option maxHeartbeats 1000000 in
theorem lawDimensionOf_walk (n p : Int) (_ : I64 n) (_ : I64 p) (w : World) (hmx : MxS w) (hid : Idn w) :
    Calls Tryd.prog 5 #[(.int .i64 n), (.int .i64 p)] w fun e w' => e = .returned (.bool true) ∧ Below w.heap.size w w' := by
  have HM := Lib.hid (And.intro hmx hid)
  obtain ⟨k, P, Q, hS, hI, hPQ, hP, hQ, hk⟩ := rank_both n p
  have HS := Lib.hid (fun w => specDim_is n p k P hS hP hk w)
  have HI := Lib.hid (fun w h1 h2 => implDim_is n p k Q hI hQ hk w h1 h2)
  have HQ := Lib.hid hPQ
  clear hmx hid hS hI hPQ hP hQ hk
  go_enter Tryd.func5, Tryd.ntmps5
  go_wp2_with fail
  refine (HS.out _).mono ?_
  rintro e w2 ⟨x, hx, rfl, hb2⟩
  have HX := Lib.hid hx
  clear hx
  go_wp2_with fail
  refine (HI.out _ (Rd.below HM.out.2 hb2) (Rd.below HM.out.1 hb2)).mono ?_
  rintro e w3 ⟨y, hy, rfl, hb3⟩
  obtain rfl := HQ.out x y HX.out hy
  clear hy
  go_wp2
  go_ret
  exact ⟨rfl, own_trans hb2 hb3⟩
end Go.Proofs.YtejghidllochoaaDoor
