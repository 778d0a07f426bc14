/- Whether something is an action: both sides. -/
import Derived.Test.YtfchfakkbdfajaaDoorAcW
import Derived.Test.YtfchfakkbdfajaaDoorAcQ
namespace Go.Proofs.YtfchfakkbdfajaaDoor
open Go.ChangeShapes Go.WideShapes Go.ChangeAt Go.RowKit

theorem isA_n {s t : List Int} (h : ¬ (1 ≤ s.length ∧ s.length ≤ 72)) : isA s t = false := by
  rcases (show ¬ 1 ≤ s.length ∨ ¬ s.length ≤ 72 by omega) with h | h <;> simp [isA, h]
theorem isA_s {s t : List Int} (h : ord s s.length = false) : isA s t = false := by simp [isA, h]
theorem isA_t {s t : List Int} (h : ord t s.length = false) : isA s t = false := by simp [isA, h]
theorem isA_ok {s t : List Int} (h : allD (ok6 s t) 0 s.length = false) : isA s t = false := by simp [isA, h]
theorem isA_met {s t : List Int} (h1 : 1 ≤ s.length ∧ s.length ≤ 72) (h2 : ord s s.length = true) (h3 : ord t s.length = true) (h4 : allD (ok6 s t) 0 s.length = true) :
    isA s t = decide ((met s t 0 s.length).length = s.length) := by simp [isA, h1, h2, h3, h4]
theorem int_eq (a b : Nat) : ((a : Int) == (b : Int)) = decide (a = b) := by
  by_cases h : a = b
  · simp [h]
  · have h2 : ¬ (a : Int) = b := by omega
    rw [decide_eq_false h]
    exact beq_eq_false_iff_ne.2 h2
theorem ltrSS : ∀ k (h : k < (⟨#[83, 83]⟩ : ByteArray).size), Ltr (⟨#[83, 83]⟩ : ByteArray)[k] := by
  intro k h
  have : k < 2 := h
  rcases (show k = 0 ∨ k = 1 by omega) with rfl | rfl <;> exact .inl rfl
theorem ltrTS : ∀ k (h : k < (⟨#[84, 83, 84, 83, 84, 83]⟩ : ByteArray).size), Ltr (⟨#[84, 83, 84, 83, 84, 83]⟩ : ByteArray)[k] := by
  intro k h
  have : k < 6 := h
  rcases (show k = 0 ∨ k = 1 ∨ k = 2 ∨ k = 3 ∨ k = 4 ∨ k = 5 by omega) with rfl | rfl | rfl | rfl | rfl | rfl
  · exact .inr (.inl rfl)
  · exact .inl rfl
  · exact .inr (.inl rfl)
  · exact .inl rfl
  · exact .inr (.inl rfl)
  · exact .inl rfl
set_option maxHeartbeats 8000000 in
theorem implIsA_is (a b : Value) (s t : List Int) (hsl : s.length ≤ 9223372036854775807) (w : World) (ha : Rl w a s) (hb : Rl w b t) :
    Calls Tryd.prog 26 #[.agg #[a, b]] w fun e w' => e = .returned (.bool (isA s t)) ∧ Below w.heap.size w w' := by
  have HA := Lib.hid (fun w' (h : Below w.heap.size w w') => ha.below h)
  have HB := Lib.hid (fun w' (h : Below w.heap.size w w') => hb.below h)
  obtain ⟨ad, c, rfl, _⟩ := ha
  obtain ⟨ad', c', rfl, _⟩ := hb
  have B0 : Box (w.alloc (.cells #[.slice ad s.length c, .slice ad' t.length c'] 28)) w.heap.size [.slice ad s.length c, .slice ad' t.length c'] := Box.new _ _ _
  have T0 := own_alloc (own_refl w) (.cells #[.slice ad s.length c, .slice ad' t.length c'] 28)
  obtain ⟨n, hn⟩ : ∃ n, s.length = n := ⟨_, rfl⟩
  obtain ⟨m, hm⟩ : ∃ m, t.length = m := ⟨_, rfl⟩
  obtain ⟨res, hr⟩ : ∃ res, isA s t = res := ⟨_, rfl⟩
  have HN := Lib.hid (And.intro hn hm)
  have HR := Lib.hid hr
  rw [hn] at HA
  rw [hm] at HB
  rw [hn, hm] at B0 T0
  rw [hn] at hsl
  rw [hn, hm, hr]
  clear hn hm hr
  by_cases h1 : 1 ≤ n ∧ n ≤ 72
  · rcases h2 : ord s n with _ | _
    · have HF : Hid (false = res) := Lib.hid (by rw [← HR.out, isA_s (by rw [HN.out.1]; exact h2)])
      have H1 := Lib.hid (fun w' h => hasEach_is _ s n (by omega) w' (HA.out w' h))
      rw [h2] at H1
      clear h2
      go_enter Tryd.func26, Tryd.ntmps26
      go_wp2_with fail
      refine (H1.out _ (by repeat (first | with_reducible exact own_refl _ | with_reducible assumption | with_reducible apply own_alloc | with_reducible apply own_drewN | with_reducible apply own_drew | ((with_reducible refine own_setCell ?_ ?_ _); rotate_left; focus (first | (simp; done) | (simp; omega))) | (with_reducible (refine own_trans ?_ (by assumption)))))).mono ?_
      rintro e w2 ⟨rfl, hb2⟩
      go_wp2
      go_ret
      exact ⟨ret_bool HF.out, own_trans T0 hb2⟩
    · rcases h3 : ord t n with _ | _
      · have HF : Hid (false = res) := Lib.hid (by rw [← HR.out, isA_t (by rw [HN.out.1]; exact h3)])
        have H1 := Lib.hid (fun w' h => hasEach_is _ s n (by omega) w' (HA.out w' h))
        have H2 := Lib.hid (fun w' h => hasEach_is _ t n (by omega) w' (HB.out w' h))
        rw [h2] at H1
        rw [h3] at H2
        clear h2 h3
        go_enter Tryd.func26, Tryd.ntmps26
        go_wp2_with fail
        refine (H1.out _ (by repeat (first | with_reducible exact own_refl _ | with_reducible assumption | with_reducible apply own_alloc | with_reducible apply own_drewN | with_reducible apply own_drew | ((with_reducible refine own_setCell ?_ ?_ _); rotate_left; focus (first | (simp; done) | (simp; omega))) | (with_reducible (refine own_trans ?_ (by assumption)))))).mono ?_
        rintro e w2 ⟨rfl, hb2⟩
        have T2 := own_trans T0 hb2
        have B2 := B0.below hb2
        obtain ⟨-, c20, c21, -, -⟩ := B2.two
        go_wp2_with fail
        refine (H2.out _ (by repeat (first | with_reducible exact own_refl _ | with_reducible assumption | with_reducible apply own_alloc | with_reducible apply own_drewN | with_reducible apply own_drew | ((with_reducible refine own_setCell ?_ ?_ _); rotate_left; focus (first | (simp; done) | (simp; omega))) | (with_reducible (refine own_trans ?_ (by assumption)))))).mono ?_
        rintro e w3 ⟨rfl, hb3⟩
        go_wp2
        go_ret
        exact ⟨ret_bool HF.out, own_trans T2 hb3⟩
      · have hs := ord_is h2
        have ht := ord_is h3
        have HP := Lib.hid (And.intro hs ht)
        have hmn : m = n := by rw [← HN.out.2]; exact ht.len
        have HQ : Hid (res = if allD (ok6 s t) 0 n then decide ((met s t 0 n).length = n) else false) := Lib.hid (by
          rw [← HR.out]
          have e := HN.out.1
          rcases h4 : allD (ok6 s t) 0 n with _ | _
          · rw [isA_ok (by rw [e]; exact h4)]; rfl
          · rw [isA_met (by rw [e]; exact h1) (by rw [e]; exact h2) (by rw [e]; exact h3) (by rw [e]; exact h4), e]; rfl)
        have H1 := Lib.hid (fun w' h => hasEach_is _ s n (by omega) w' (HA.out w' h))
        have H2 := Lib.hid (fun w' h => hasEach_is _ t n (by omega) w' (HB.out w' h))
        rw [h2] at H1
        rw [h3] at H2
        have HL1 := Lib.hid (fun i (hi : i < n) w' h => lead_is _ _ s t n (by omega) hs ht ⟨#[83, 83]⟩ ltrSS (by decide) i hi w' (HA.out w' h) (HB.out w' h))
        have HL2 := Lib.hid (fun i (hi : i < n) w' h => lead_is _ _ s t n (by omega) hs ht ⟨#[84, 83, 84, 83, 84, 83]⟩ ltrTS (by decide) i hi w' (HA.out w' h) (HB.out w' h))
        have HM := Lib.hid (fun w' h => points_is _ _ s t n (by omega) hs ht 0 (by omega) w' (HA.out w' h) (HB.out w' h))
        subst hmn
        obtain ⟨ok0, hok⟩ : ∃ ok0, allD (ok6 s t) 0 m = ok0 := ⟨_, rfl⟩
        have HK0 : Hid (allD (ok6 s t) 0 (m - 0) = ok0) := Lib.hid hok
        rw [hok] at HQ
        clear hok
        clear h2 h3 hs ht
        go_enter Tryd.func26, Tryd.ntmps26
        go_wp2_with fail
        refine (H1.out _ (by repeat (first | with_reducible exact own_refl _ | with_reducible assumption | with_reducible apply own_alloc | with_reducible apply own_drewN | with_reducible apply own_drew | ((with_reducible refine own_setCell ?_ ?_ _); rotate_left; focus (first | (simp; done) | (simp; omega))) | (with_reducible (refine own_trans ?_ (by assumption)))))).mono ?_
        rintro e w2 ⟨rfl, hb2⟩
        have T2 := own_trans T0 hb2
        have B2 := B0.below hb2
        obtain ⟨-, c20, c21, -, -⟩ := B2.two
        go_wp2_with fail
        refine (H2.out _ (by repeat (first | with_reducible exact own_refl _ | with_reducible assumption | with_reducible apply own_alloc | with_reducible apply own_drewN | with_reducible apply own_drew | ((with_reducible refine own_setCell ?_ ?_ _); rotate_left; focus (first | (simp; done) | (simp; omega))) | (with_reducible (refine own_trans ?_ (by assumption)))))).mono ?_
        rintro e w3 ⟨rfl, hb3⟩
        have T3 := own_trans T2 hb3
        have B3 := B2.below hb3
        clear hb2 hb3 T2 B2 c20 c21 B0 T0
        go_wp2
        go_loopw [29] (fun x wr => ∃ k : Nat, k ≤ m ∧ x = (.int .i64 ((k : Int))) ∧ Hid (allD (ok6 s t) k (m - k) = ok0) ∧ Below w.heap.size w wr ∧ Box wr w.heap.size [.slice ad m c, .slice ad' m c']) (fun x _ => m - (intOf x).toNat)
        case atStart => exact ⟨0, Nat.zero_le _, rfl, HK0, T3, B3⟩
        case round =>
          obtain ⟨k, hk, rfl, HK, T, B⟩ := hrel
          clear T3 B3 HK0
          obtain ⟨-, c0, c1, -, -⟩ := B.two
          by_cases hlt : k < m
          · have HK1 : Hid ((ok6 s t k && allD (ok6 s t) (k + 1) (m - (k + 1))) = ok0) := Lib.hid (by rw [← allD_step hlt]; exact HK.out)
            have HX1 := Lib.hid (HL1.out k hlt)
            have HX2 := Lib.hid (HL2.out k hlt)
            have e1 : stW s t m ((⟨#[83, 83]⟩ : ByteArray).data.toList) k = pt s (pt s k) := rfl
            have e2 : stW s t m ((⟨#[84, 83, 84, 83, 84, 83]⟩ : ByteArray).data.toList) k = pt s (pt t (pt s (pt t (pt s (pt t k))))) := rfl
            rw [e1] at HX1
            rw [e2] at HX2
            have e3 : ok6 s t k = (decide (pt s (pt s k) = k) && decide (pt s (pt t (pt s (pt t (pt s (pt t k))))) = k)) := rfl
            rw [e3] at HK1
            clear e3
            clear e1 e2 HK
            generalize pt s (pt s k) = p1 at *
            generalize pt s (pt t (pt s (pt t (pt s (pt t k))))) = p2 at *
            by_cases hp1 : p1 = k
            · by_cases hp2 : p2 = k
              · have HK2 : Hid (allD (ok6 s t) (k + 1) (m - (k + 1)) = ok0) := Lib.hid (by have h := HK1.out; simpa [hp1, hp2] using h)
                subst hp1 hp2
                clear HK1
                go_wp2_with fail
                refine (HX1.out _ (by repeat (first | with_reducible exact own_refl _ | with_reducible assumption | with_reducible apply own_alloc | with_reducible apply own_drewN | with_reducible apply own_drew | ((with_reducible refine own_setCell ?_ ?_ _); rotate_left; focus (first | (simp; done) | (simp; omega))) | (with_reducible (refine own_trans ?_ (by assumption)))))).mono ?_
                rintro e w4 ⟨rfl, hb4⟩
                have T4 := own_trans T hb4
                have B4 := B.below hb4
                obtain ⟨-, c40, c41, -, -⟩ := B4.two
                clear hb4
                go_wp2_with fail
                refine (HX2.out _ (by repeat (first | with_reducible exact own_refl _ | with_reducible assumption | with_reducible apply own_alloc | with_reducible apply own_drewN | with_reducible apply own_drew | ((with_reducible refine own_setCell ?_ ?_ _); rotate_left; focus (first | (simp; done) | (simp; omega))) | (with_reducible (refine own_trans ?_ (by assumption)))))).mono ?_
                rintro e w5 ⟨rfl, hb5⟩
                have T5 := own_trans T4 hb5
                have B5 := B4.below hb5
                clear hb5
                go_wp2
                go_roundw
                case rel => exact ⟨p2 + 1, by omega, by go_num, HK2, T5, B5⟩
                case measure => simp [intOf]; omega
              · have HF : Hid (false = res) := Lib.hid (by
                  have h : false = ok0 := by have h := HK1.out; simpa [hp2] using h
                  rw [HQ.out, ← h]; rfl)
                have hx : ¬ ((p2 : Int)) = (k : Int) := by omega
                subst hp1
                clear HK1 hp2
                go_wp2_with fail
                refine (HX1.out _ (by repeat (first | with_reducible exact own_refl _ | with_reducible assumption | with_reducible apply own_alloc | with_reducible apply own_drewN | with_reducible apply own_drew | ((with_reducible refine own_setCell ?_ ?_ _); rotate_left; focus (first | (simp; done) | (simp; omega))) | (with_reducible (refine own_trans ?_ (by assumption)))))).mono ?_
                rintro e w4 ⟨rfl, hb4⟩
                have T4 := own_trans T hb4
                have B4 := B.below hb4
                obtain ⟨-, c40, c41, -, -⟩ := B4.two
                clear hb4
                go_wp2_with fail
                refine (HX2.out _ (by repeat (first | with_reducible exact own_refl _ | with_reducible assumption | with_reducible apply own_alloc | with_reducible apply own_drewN | with_reducible apply own_drew | ((with_reducible refine own_setCell ?_ ?_ _); rotate_left; focus (first | (simp; done) | (simp; omega))) | (with_reducible (refine own_trans ?_ (by assumption)))))).mono ?_
                rintro e w5 ⟨rfl, hb5⟩
                have T5 := own_trans T4 hb5
                go_wp2
                go_ret
                exact ⟨ret_bool HF.out, T5⟩
            · have HF : Hid (false = res) := Lib.hid (by
                have h : false = ok0 := by have h := HK1.out; simpa [hp1] using h
                rw [HQ.out, ← h]; rfl)
              have hx : ¬ ((p1 : Int)) = (k : Int) := by omega
              clear HK1 hp1
              go_wp2_with fail
              refine (HX1.out _ (by repeat (first | with_reducible exact own_refl _ | with_reducible assumption | with_reducible apply own_alloc | with_reducible apply own_drewN | with_reducible apply own_drew | ((with_reducible refine own_setCell ?_ ?_ _); rotate_left; focus (first | (simp; done) | (simp; omega))) | (with_reducible (refine own_trans ?_ (by assumption)))))).mono ?_
              rintro e w4 ⟨rfl, hb4⟩
              have T4 := own_trans T hb4
              go_wp2
              go_ret
              exact ⟨ret_bool HF.out, T4⟩
          · have HF : Hid (decide ((met s t 0 m).length = m) = res) := Lib.hid (by
              have h : true = ok0 := by
                have h := HK.out
                rw [show m - k = 0 by omega] at h
                exact h
              rw [HQ.out, ← h]; rfl)
            go_wp2_with fail
            refine (HM.out _ (by repeat (first | with_reducible exact own_refl _ | with_reducible assumption | with_reducible apply own_alloc | with_reducible apply own_drewN | with_reducible apply own_drew | ((with_reducible refine own_setCell ?_ ?_ _); rotate_left; focus (first | (simp; done) | (simp; omega))) | (with_reducible (refine own_trans ?_ (by assumption)))))).mono ?_
            rintro e w4 ⟨v, rfl, hG, hb4⟩
            obtain ⟨ad4, c4, e4⟩ := hG.shape
            subst e4
            have T4 := own_trans T hb4
            have hle : (met s t 0 m).length ≤ m := (met_ps HP.out.1 HP.out.2 (show 0 < m by omega)).le
            generalize (met s t 0 m).length = q at *
            clear hG
            go_wp2
            go_ret
            exact ⟨ret_bool (by rw [← HF.out]; exact int_eq _ _), T4⟩
  · have HF : Hid (false = res) := Lib.hid (by rw [← HR.out, isA_n (by rw [HN.out.1]; exact h1)])
    rcases (show n < 1 ∨ (1 ≤ n ∧ 72 < n) by omega) with h | h
    · go_enter Tryd.func26, Tryd.ntmps26
      go_wp2
      go_ret
      exact ⟨ret_bool HF.out, T0⟩
    · go_enter Tryd.func26, Tryd.ntmps26
      go_wp2
      go_ret
      exact ⟨ret_bool HF.out, T0⟩
/-- T, then S, so many times -/
def ts3 (s t : List Int) (i : Nat) : Nat → Nat
  | 0 => i
  | k + 1 => pt s (pt t (ts3 s t i k))
theorem ts3_lt {s t : List Int} {n i : Nat} (hs : Pm s n) (ht : Pm t n) (hi : i < n) : ∀ k, ts3 s t i k < n
  | 0 => hi
  | k + 1 => (hs.at (ht.at (ts3_lt hs ht hi k)).2).2
set_option maxHeartbeats 8000000 in
theorem l10Is_is (a b : Value) (s t : List Int) (hsl : s.length ≤ 9223372036854775807) (w : World) (ha : Rl w a s) (hb : Rl w b t) :
    Calls Tryd.prog 52 #[.agg #[a, b]] w fun e w' => e = .returned (.bool (isA s t)) ∧ Below w.heap.size w w' := by
  have HA := Lib.hid (fun w' (h : Below w.heap.size w w') => ha.below h)
  have HB := Lib.hid (fun w' (h : Below w.heap.size w w') => hb.below h)
  obtain ⟨ad, c, rfl, ra⟩ := ha
  obtain ⟨ad', c', rfl, rb⟩ := hb
  have HAB := Lib.hid (And.intro ra rb)
  clear ra rb
  have B0 : Box (w.alloc (.cells #[.slice ad s.length c, .slice ad' t.length c'] 28)) w.heap.size [.slice ad s.length c, .slice ad' t.length c'] := Box.new _ _ _
  have T0 := own_alloc (own_refl w) (.cells #[.slice ad s.length c, .slice ad' t.length c'] 28)
  obtain ⟨n, hn⟩ : ∃ n, s.length = n := ⟨_, rfl⟩
  obtain ⟨m, hm⟩ : ∃ m, t.length = m := ⟨_, rfl⟩
  obtain ⟨res, hr⟩ : ∃ res, isA s t = res := ⟨_, rfl⟩
  have HN := Lib.hid (And.intro hn hm)
  have HR := Lib.hid hr
  rw [hn] at HA
  rw [hm] at HB
  rw [hn, hm] at B0 T0
  rw [hn] at hsl
  rw [hn, hm, hr]
  clear hn hm hr
  by_cases h1 : 1 ≤ n ∧ n ≤ 72
  · rcases h2 : ord s n with _ | _
    · have HF : Hid (false = res) := Lib.hid (by rw [← HR.out, isA_s (by rw [HN.out.1]; exact h2)])
      have H1 := Lib.hid (fun w' h => l10Order_is _ s n (by omega) w' (HA.out w' h))
      rw [h2] at H1
      clear h2
      go_enter Tryd.func52, Tryd.ntmps52
      go_wp2_with fail
      refine (H1.out _ (by repeat (first | with_reducible exact own_refl _ | with_reducible assumption | with_reducible apply own_alloc | with_reducible apply own_drewN | with_reducible apply own_drew | ((with_reducible refine own_setCell ?_ ?_ _); rotate_left; focus (first | (simp; done) | (simp; omega))) | (with_reducible (refine own_trans ?_ (by assumption)))))).mono ?_
      rintro e w2 ⟨rfl, hb2⟩
      go_wp2
      go_ret
      exact ⟨ret_bool HF.out, own_trans T0 hb2⟩
    · rcases h3 : ord t n with _ | _
      · have HF : Hid (false = res) := Lib.hid (by rw [← HR.out, isA_t (by rw [HN.out.1]; exact h3)])
        have H1 := Lib.hid (fun w' h => l10Order_is _ s n (by omega) w' (HA.out w' h))
        have H2 := Lib.hid (fun w' h => l10Order_is _ t n (by omega) w' (HB.out w' h))
        rw [h2] at H1
        rw [h3] at H2
        clear h2 h3
        go_enter Tryd.func52, Tryd.ntmps52
        go_wp2_with fail
        refine (H1.out _ (by repeat (first | with_reducible exact own_refl _ | with_reducible assumption | with_reducible apply own_alloc | with_reducible apply own_drewN | with_reducible apply own_drew | ((with_reducible refine own_setCell ?_ ?_ _); rotate_left; focus (first | (simp; done) | (simp; omega))) | (with_reducible (refine own_trans ?_ (by assumption)))))).mono ?_
        rintro e w2 ⟨rfl, hb2⟩
        have T2 := own_trans T0 hb2
        have B2 := B0.below hb2
        obtain ⟨-, c20, c21, -, -⟩ := B2.two
        go_wp2_with fail
        refine (H2.out _ (by repeat (first | with_reducible exact own_refl _ | with_reducible assumption | with_reducible apply own_alloc | with_reducible apply own_drewN | with_reducible apply own_drew | ((with_reducible refine own_setCell ?_ ?_ _); rotate_left; focus (first | (simp; done) | (simp; omega))) | (with_reducible (refine own_trans ?_ (by assumption)))))).mono ?_
        rintro e w3 ⟨rfl, hb3⟩
        go_wp2
        go_ret
        exact ⟨ret_bool HF.out, own_trans T2 hb3⟩
      · have hs := ord_is h2
        have ht := ord_is h3
        have HP := Lib.hid (And.intro hs ht)
        have hmn : m = n := by rw [← HN.out.2]; exact ht.len
        have HQ : Hid (res = if allD (ok6 s t) 0 n then decide ((met s t 0 n).length = n) else false) := Lib.hid (by
          rw [← HR.out]
          have e := HN.out.1
          rcases h4 : allD (ok6 s t) 0 n with _ | _
          · rw [isA_ok (by rw [e]; exact h4)]; rfl
          · rw [isA_met (by rw [e]; exact h1) (by rw [e]; exact h2) (by rw [e]; exact h3) (by rw [e]; exact h4), e]; rfl)
        have H1 := Lib.hid (fun w' h => l10Order_is _ s n (by omega) w' (HA.out w' h))
        have H2 := Lib.hid (fun w' h => l10Order_is _ t n (by omega) w' (HB.out w' h))
        rw [h2] at H1
        rw [h3] at H2
        have HM := Lib.hid (fun w' h => l10Met_is _ _ s t n (by omega) hs ht 0 (by omega) w' (HA.out w' h) (HB.out w' h))
        subst hmn
        obtain ⟨g, rfl, rg⟩ := HAB.out.1 (by have := HN.out.1; omega)
        obtain ⟨g', rfl, rg'⟩ := HAB.out.2 (by have := HN.out.2; omega)
        have HC := Lib.hid (And.intro rg rg')
        obtain ⟨ok0, hok⟩ : ∃ ok0, allD (ok6 s t) 0 m = ok0 := ⟨_, rfl⟩
        have HK0 : Hid (allD (ok6 s t) 0 (m - 0) = ok0) := Lib.hid hok
        rw [hok] at HQ
        clear hok h2 h3 hs ht HAB rg rg'
        go_enter Tryd.func52, Tryd.ntmps52
        go_wp2_with fail
        refine (H1.out _ (by repeat (first | with_reducible exact own_refl _ | with_reducible assumption | with_reducible apply own_alloc | with_reducible apply own_drewN | with_reducible apply own_drew | ((with_reducible refine own_setCell ?_ ?_ _); rotate_left; focus (first | (simp; done) | (simp; omega))) | (with_reducible (refine own_trans ?_ (by assumption)))))).mono ?_
        rintro e w2 ⟨rfl, hb2⟩
        have T2 := own_trans T0 hb2
        have B2 := B0.below hb2
        obtain ⟨-, c20, c21, -, -⟩ := B2.two
        go_wp2_with fail
        refine (H2.out _ (by repeat (first | with_reducible exact own_refl _ | with_reducible assumption | with_reducible apply own_alloc | with_reducible apply own_drewN | with_reducible apply own_drew | ((with_reducible refine own_setCell ?_ ?_ _); rotate_left; focus (first | (simp; done) | (simp; omega))) | (with_reducible (refine own_trans ?_ (by assumption)))))).mono ?_
        rintro e w3 ⟨rfl, hb3⟩
        have T3 := own_trans T2 hb3
        have B3 := B2.below hb3
        clear hb2 hb3 T2 B2 c20 c21 B0 T0
        go_wp2
        go_loopw [4] (fun x wr => ∃ k : Nat, k ≤ m ∧ x = (.int .i64 ((k : Int))) ∧ Hid (allD (ok6 s t) k (m - k) = ok0) ∧ Below w.heap.size w wr ∧ Box wr w.heap.size [.slice (some ⟨g, 0, none⟩) m c, .slice (some ⟨g', 0, none⟩) m c']) (fun x _ => m - (intOf x).toNat)
        case atStart => exact ⟨0, Nat.zero_le _, rfl, HK0, T3, B3⟩
        case round =>
          obtain ⟨k, hk, rfl, HK, T, B⟩ := hrel
          clear T3 B3 HK0
          obtain ⟨-, c0, c1, -, -⟩ := B.two
          by_cases hlt : k < m
          · have HK1 : Hid ((ok6 s t k && allD (ok6 s t) (k + 1) (m - (k + 1))) = ok0) := Lib.hid (by rw [← allD_step hlt]; exact HK.out)
            have e3 : ok6 s t k = (decide (pt s (pt s k) = k) && decide (ts3 s t k 3 = k)) := rfl
            rw [e3] at HK1
            clear e3 HK
            generalize wr = wo at *
            go_wp2
            go_loopw [5, 6] (fun x y wr => ∃ q : Nat, q ≤ 3 ∧ y = (.int .i64 ((q : Int))) ∧ x = (.int .i64 (((ts3 s t k q : Nat) : Int))) ∧ Below w.heap.size w wr ∧ Box wr w.heap.size [.slice (some ⟨g, 0, none⟩) m c, .slice (some ⟨g', 0, none⟩) m c']) (fun _ y _ => 3 - (intOf y).toNat)
            case atStart => exact ⟨0, by omega, rfl, rfl, T, B⟩
            case round =>
              obtain ⟨q, hq, rfl, rfl, T, B⟩ := hrel
              clear c0 c1
              obtain ⟨-, c0, c1, -, -⟩ := B.two
              by_cases hq3 : q < 3
              · have hp := ts3_lt HP.out.1 HP.out.2 hlt q
                obtain ⟨et, htl⟩ := HP.out.2.at hp
                obtain ⟨es, hsl2⟩ := HP.out.1.at htl
                have cT := (HC.out.2.below T).2 _ (by rw [HP.out.2.len]; exact hp)
                have cS := (HC.out.1.below T).2 _ (by rw [HP.out.1.len]; exact htl)
                rw [et] at cT
                rw [es] at cS
                have HE : Hid (ts3 s t k (q + 1) = pt s (pt t (ts3 s t k q))) := Lib.hid rfl
                clear et es
                generalize ts3 s t k q = p at *
                generalize pt t p = y at *
                generalize pt s y = x at *
                go_wp2
                go_quiet (fail)
                go_wp2
                go_roundw
                case rel => exact ⟨q + 1, by omega, by go_num, by rw [HE.out], below_drewN' T _, B.drewN _⟩
                case measure => simp [intOf]; omega
              · obtain rfl : q = 3 := by omega
                obtain ⟨es, hsl2⟩ := HP.out.1.at hlt
                obtain ⟨es2, _⟩ := HP.out.1.at hsl2
                have cS := (HC.out.1.below T).2 _ (by rw [HP.out.1.len]; exact hlt)
                have cS2 := (HC.out.1.below T).2 _ (by rw [HP.out.1.len]; exact hsl2)
                rw [es] at cS
                rw [es2] at cS2
                clear es es2
                generalize pt s k = p0 at *
                generalize pt s p0 = p1 at *
                generalize ts3 s t k 3 = p2 at *
                by_cases hp2 : p2 = k
                · by_cases hp1 : p1 = k
                  · have HK2 : Hid (allD (ok6 s t) (k + 1) (m - (k + 1)) = ok0) := Lib.hid (by have h := HK1.out; simpa [hp1, hp2] using h)
                    subst hp1 hp2
                    clear HK1
                    go_wp2
                    go_quiet (fail)
                    go_wp2
                    go_roundw
                    case rel => exact ⟨p2 + 1, by omega, by go_num, HK2, below_drewN' T _, B.drewN _⟩
                    case measure => simp [intOf]; omega
                  · have HF : Hid (false = res) := Lib.hid (by
                      have h : false = ok0 := by have h := HK1.out; simpa [hp1] using h
                      rw [HQ.out, ← h]; rfl)
                    have hx : ¬ ((p1 : Int)) = (k : Int) := by omega
                    subst hp2
                    clear HK1 hp1
                    go_wp2
                    go_quiet (fail)
                    go_wp2
                    go_ret
                    exact ⟨ret_bool HF.out, below_drewN' T _⟩
                · have HF : Hid (false = res) := Lib.hid (by
                    have h : false = ok0 := by have h := HK1.out; simpa [hp2] using h
                    rw [HQ.out, ← h]; rfl)
                  have hx : ¬ ((p2 : Int)) = (k : Int) := by omega
                  clear HK1 hp2
                  go_wp2
                  go_quiet (fail)
                  go_wp2
                  go_ret
                  exact ⟨ret_bool HF.out, below_drewN' T _⟩
          · have HF : Hid (decide ((met s t 0 m).length = m) = res) := Lib.hid (by
              have h : true = ok0 := by
                have h := HK.out
                rw [show m - k = 0 by omega] at h
                exact h
              rw [HQ.out, ← h]; rfl)
            go_wp2_with fail
            refine (HM.out _ (by repeat (first | with_reducible exact own_refl _ | with_reducible assumption | with_reducible apply own_alloc | with_reducible apply own_drewN | with_reducible apply own_drew | ((with_reducible refine own_setCell ?_ ?_ _); rotate_left; focus (first | (simp; done) | (simp; omega))) | (with_reducible (refine own_trans ?_ (by assumption)))))).mono ?_
            rintro e w4 ⟨v, rfl, hG, hb4⟩
            obtain ⟨ad4, c4, e4⟩ := hG.shape
            subst e4
            have T4 := own_trans T hb4
            have hle : (met s t 0 m).length ≤ m := (met_ps HP.out.1 HP.out.2 (show 0 < m by omega)).le
            generalize (met s t 0 m).length = q at *
            clear hG
            go_wp2
            go_ret
            exact ⟨ret_bool (by rw [← HF.out]; exact int_eq _ _), T4⟩
  · have HF : Hid (false = res) := Lib.hid (by rw [← HR.out, isA_n (by rw [HN.out.1]; exact h1)])
    rcases (show n < 1 ∨ (1 ≤ n ∧ 72 < n) by omega) with h | h
    · go_enter Tryd.func52, Tryd.ntmps52
      go_wp2
      go_ret
      exact ⟨ret_bool HF.out, T0⟩
    · go_enter Tryd.func52, Tryd.ntmps52
      go_wp2
      go_ret
      exact ⟨ret_bool HF.out, T0⟩
end Go.Proofs.YtfchfakkbdfajaaDoor
