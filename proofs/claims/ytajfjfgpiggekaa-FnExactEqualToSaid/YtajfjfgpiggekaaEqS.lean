/- The model's EqualTo. -/
import Derived.Test.YtajfjfgpiggekaaEqI
namespace Go.Proofs.Ytajfjfgpiggekaa
open Go.ChangeShapes Go.WideShapes Go.ChangeAt Go.RowKit

theorem Gr.madeE {w : World} {L g : Nat} (hg : w.heap.size = g) (hL : L ≤ g) : Gr (w.alloc (.cells #[] 2)) L (.slice (some ⟨g, 0, none⟩) 0 0) [] := by
  subst hg
  exact World.ownsRow_made w #[] 0 hL (by unfold maxLen; omega) (by simp)
theorem specEq_no (h k c : Int) (hc0 : (c != 0) = true) (hc : ∀ w : World, Calls Try.prog 51 #[(.int .i64 h), (.int .i64 k), (.int .i64 100)] w fun e w' => e = .returned (.int .i64 c) ∧ w = w') (w : World) :
    Calls Try.prog 25 #[(.int .i64 h), (.int .i64 k)] w (RetE [] c w) := by
  have HC := Lib.hid hc
  clear hc
  have hc1 : (c == 0) = false := by simpa using hc0
  go_enter Try.func25, Try.ntmps25
  go_wp2_with fail
  refine (HC.out _).mono ?_
  rintro e w1 ⟨rfl, rfl⟩
  go_wp2
  go_ret2
  exact ⟨_, rfl, Sl.nil _ _ _ (Nat.le_refl _), by repeat (first | with_reducible exact own_refl _ | with_reducible assumption | with_reducible apply own_alloc | with_reducible apply own_drewN | with_reducible apply own_drew | ((with_reducible refine own_setCell ?_ ?_ _); rotate_left; focus (first | (simp; done) | (simp; omega))) | (with_reducible (refine own_trans ?_ (by assumption))))⟩
set_option maxRecDepth 100000 in
set_option maxHeartbeats 4000000 in
theorem specEq_yes (h k : Int) (K : Nat) (hK : (K : Int) = k) (hh : inW h 1000000000 = true) (h1 : 1 ≤ k) (h2 : k ≤ 100) (hg : Int.gcd h k = 1) (w : World) : Calls Try.prog 25 #[(.int .i64 h), (.int .i64 k)] w (RetE (eqL h k (cop k K)) 0 w) := by
  have HC := Lib.hid (fun w => l07Code_ok h k 100 hh (decide_eq_true ⟨h1, h2⟩) (by omega) hg w)
  have HO := Lib.hid (fun w => l07Sum_is k.toNat h k (by omega) h1 (by omega) (ent_i64 (ent_iff.1 hh)) hg w)
  have HK := Lib.hid hK
  have hK2 : K ≤ 100 := by omega
  obtain ⟨o, ho⟩ : ∃ o, ls h k = o := ⟨_, rfl⟩
  rw [ho] at HO
  have HOO := Lib.hid ho
  clear hK hg ho hh
  go_enter Try.func25, Try.ntmps25
  go_wp2_with fail
  refine (HC.out _).mono ?_
  rintro e w1 ⟨rfl, rfl⟩
  go_wp2_with fail
  refine (HO.out _).mono ?_
  rintro e w1 ⟨rfl, rfl⟩
  go_wp2
  go_loopw [8, 9] (fun v x wr => ∃ j : Nat, j ≤ K ∧ x = (.int .i64 ((j : Int) + 1)) ∧ Gr wr w.heap.size v (eqL h k (cop k j)) ∧ Below w.heap.size w wr) (fun _ x _ => (k + 1 - intOf x).toNat)
  case atStart => exact ⟨0, Nat.zero_le _, by simp, Gr.madeE rfl (Nat.le_refl _), by repeat (first | with_reducible exact own_refl _ | with_reducible assumption | with_reducible apply own_alloc | with_reducible apply own_drewN | with_reducible apply own_drew | ((with_reducible refine own_setCell ?_ ?_ _); rotate_left; focus (first | (simp; done) | (simp; omega))) | (with_reducible (refine own_trans ?_ (by assumption))))⟩
  case round =>
    obtain ⟨j, hj, rfl, hF, T⟩ := hrel
    obtain ⟨u, hu⟩ : ∃ u : Int, (j : Int) + 1 = u := ⟨_, rfl⟩
    have HU := Lib.hid hu
    have hu1 : 1 ≤ u ∧ u ≤ k + 1 := by have := HK.out; omega
    obtain ⟨_, _⟩ := hu1
    have hlen := cop_len k j
    have hle := eqL_len h k (cop k j)
    obtain ⟨us, hus⟩ : ∃ us, cop k j = us := ⟨_, rfl⟩
    obtain ⟨c, hc⟩ : ∃ c, eqL h k us = c := ⟨_, rfl⟩
    rw [hus] at hF hle hlen
    rw [hc] at hF hle
    have HM := Lib.hid (And.intro hus hc)
    obtain ⟨ad, cap, hv⟩ := hF.shape
    subst hv
    have hz := T.size
    have hc100 : c.length ≤ 100 := by omega
    clear hle hlen
    rw [hu]
    by_cases hlt : u ≤ k
    · obtain ⟨g, hg⟩ : ∃ g : Int, ((Int.gcd u k : Nat) : Int) = g := ⟨_, rfl⟩
      have HD := Lib.hid (fun w => l01Gcd_is g u k hg (by unfold Mid; omega) (by unfold Mid; omega) w)
      by_cases h3 : g = 1
      · have hgu : Int.gcd u k = 1 := by omega
        subst h3
        have HS := Lib.hid (cop_yes hu hg)
        have HL := Lib.hid (fun w => l07Sum_is k.toNat u k (by omega) (by omega) (by omega) (by unfold I64; omega) hgu w)
        obtain ⟨L, hL⟩ : ∃ L, ls u k = L := ⟨_, rfl⟩
        rw [hL] at HL
        by_cases he : L = o
        · have HQ : Hid (eqL h k (us ++ [u]) = c ++ [u]) := Lib.hid (by rw [eqL_yes _ (by rw [hL, HOO.out, he]), hc])
          have e1 : (L == o) = true := by simp [he]
          clear hg hu hgu hus hc he hL
          go_wp2_with fail
          refine (HD.out _).mono ?_
          rintro e w1 ⟨rfl, rfl⟩
          go_wp2_with fail
          refine (HL.out _).mono ?_
          rintro e w1 ⟨rfl, rfl⟩
          go_wp2_with (at_builtin; refine app64 rfl _ _ rfl w.heap.size _ (.slice ad c.length cap) c u rfl hF _ rfl rfl (by omega) (by omega) ?_; intro v' w3 hF3 hb3)
          go_roundw
          case rel => exact ⟨j + 1, by have := HU.out; have := HK.out; omega, by have := HU.out; simp; omega, by rw [HS.out, HM.out.1, HQ.out]; exact hF3, T.trans hb3⟩
          case measure => simp [intOf]; omega
        · have HQ : Hid (eqL h k (us ++ [u]) = c) := Lib.hid (by rw [eqL_no _ (by rw [hL, HOO.out]; exact he), hc])
          have e1 : (L == o) = false := by simp [he]
          clear hg hu hgu hus hc he hL
          go_wp2_with fail
          refine (HD.out _).mono ?_
          rintro e w1 ⟨rfl, rfl⟩
          go_wp2_with fail
          refine (HL.out _).mono ?_
          rintro e w1 ⟨rfl, rfl⟩
          go_wp2
          go_roundw
          case rel => exact ⟨j + 1, by have := HU.out; have := HK.out; omega, by have := HU.out; simp; omega, by rw [HS.out, HM.out.1, HQ.out]; exact hF, T⟩
          case measure => simp [intOf]; omega
      · have HS := Lib.hid (cop_no hu (fun h => h3 (hg.symm.trans h)))
        have h3' : (g == 1) = false := by simp [h3]
        clear hg hu hus hc
        go_wp2_with fail
        refine (HD.out _).mono ?_
        rintro e w1 ⟨rfl, rfl⟩
        go_wp2
        go_roundw
        case rel => exact ⟨j + 1, by have := HU.out; have := HK.out; omega, by have := HU.out; simp; omega, by rw [HS.out, HM.out.1, HM.out.2]; exact hF, T⟩
        case measure => simp [intOf]; omega
    · have HE : Hid (j = K) := Lib.hid (by have := HK.out; omega)
      clear hus hc hu
      go_wp2
      go_ret2
      exact ⟨_, rfl, by rw [← HE.out, HM.out.1, HM.out.2]; exact hF.sl, T⟩
set_option maxHeartbeats 1000000 in
theorem lawEqualTo_of (a0 a1 : Int) (xs : List Int) (k : Int) (hm : xs.length ≤ 100000)
    (hs : ∀ w : World, Calls Try.prog 25 #[(.int .i64 a0), (.int .i64 a1)] w (RetE xs k w))
    (hi : ∀ w : World, Calls Try.prog 26 #[(.int .i64 a0), (.int .i64 a1)] w (RetE xs k w)) (w : World) :
    Calls Try.prog 7 #[(.int .i64 a0), (.int .i64 a1)] w fun e w' => e = .returned (.bool true) ∧ Below w.heap.size w w' := by
  have HS := Lib.hid hs
  have HI := Lib.hid hi
  clear hs hi
  go_enter Try.func7, Try.ntmps7
  go_wp2_with fail
  refine (HS.out _).mono ?_
  rintro e w2 ⟨v0, rfl, s0, hb2⟩
  go_wp2_with fail
  refine (HI.out _).mono ?_
  rintro e w4 ⟨v1, rfl, s1, hb4⟩
  have s0 := s0.own hb4
  go_wp2_with fail
  refine (eqS_same _ _ xs _ _ _ _ _ (by omega) s1 s0).mono ?_
  rintro e w5 ⟨rfl, hb5⟩
  have s0 := s0.own hb5
  have s1 := s1.own hb5
  have z2 := hb2.size
  have z4 := hb4.size
  have z5 := hb5.size
  go_wp2_with fail
  refine (markS_any _ xs 1 _ _ _ (by omega) (by omega) (by omega) s1).mono ?_
  rintro e w6 ⟨rfl, s1, hb6⟩
  have s0 := s0.below (hb6.mono (by omega))
  have z6 := hb6.size
  go_wp2_with fail
  refine (heldS_ramp _ 1 xs.length _ _ _ (by omega) (by omega) (by omega) s1).mono ?_
  rintro e w7 ⟨rfl, rfl⟩
  have t5 : Below w.heap.size w w5 := by repeat (first | with_reducible exact own_refl _ | with_reducible assumption | with_reducible apply own_alloc | with_reducible apply own_drewN | with_reducible apply own_drew | ((with_reducible refine own_setCell ?_ ?_ _); rotate_left; focus (first | (simp; done) | (simp; omega))) | (with_reducible (refine own_trans ?_ (by assumption))))
  have t6 := t5.trans (hb6.mono (by omega))
  go_wp2_with fail
  refine (HI.out _).mono ?_
  rintro e w9 ⟨v2, rfl, s2, hb9⟩
  have s0 := s0.own hb9
  have s1 := s1.own hb9
  go_wp2_with fail
  refine (eqS_same _ _ xs _ _ _ _ _ (by omega) s2 s0).mono ?_
  rintro e w10 ⟨rfl, hb10⟩
  have s1 := s1.own hb10
  go_wp2_with fail
  refine (heldS_ramp _ 1 xs.length _ _ _ (by omega) (by omega) (by omega) s1).mono ?_
  rintro e w11 ⟨rfl, rfl⟩
  go_wp2
  go_ret
  exact ⟨rfl, (t6.trans (hb9.mono (by omega))).trans (hb10.mono (by have := hb9.size; omega))⟩
theorem lawEqualTo_walk (h k : Int) (_ : I64 h) (_ : I64 k) (w : World) :
    Calls Try.prog 7 #[(.int .i64 h), (.int .i64 k)] w fun e w' => e = .returned (.bool true) ∧ Below w.heap.size w w' := by
  by_cases hr : inW h 1000000000 = true ∧ inR k 1 100 = true
  · obtain ⟨h1, h2⟩ := hr
    have k2 : 1 ≤ k ∧ k ≤ 100 := of_decide_eq_true h2
    have h2' : inR k 1 20000 = true := decide_eq_true ⟨k2.1, by omega⟩
    by_cases hg : Int.gcd h k = 1
    · have l1 := cop_len k k.toNat
      have l2 := eqL_len h k (cop k k.toNat)
      exact lawEqualTo_of h k _ 0 (by omega) (fun w => specEq_yes h k k.toNat (by omega) h1 k2.1 k2.2 hg w) (fun w => implEq_yes h k k.toNat _ (by omega) h1 k2.1 k2.2 hg rfl w) w
    · have h3 : ¬ ((Int.gcd h k : Nat) : Int) = 1 := by omega
      exact lawEqualTo_of h k [] 5 (by simp) (fun w => specEq_no h k 5 rfl (fun w => l07Code_state h k 100 _ h1 h2 (by omega) rfl h3 w) w) (fun w => implEq_no h k 5 (by omega) rfl (fun w => implDed_state h k _ h1 h2' rfl h3 w) w) w
  · have hr : inW h 1000000000 = false ∨ (inW h 1000000000 = true ∧ inR k 1 100 = false) := by
      cases h1 : inW h 1000000000 <;> cases h2 : inR k 1 100 <;> simp_all
    refine lawEqualTo_of h k [] 2 (by simp) (fun w => specEq_no h k 2 rfl (fun w => l07Code_range h k 100 hr w) w) (fun w => ?_) w
    by_cases hk : 100 < k
    · exact implEq_big h k hk w
    · refine implEq_no h k 2 hk rfl (fun w => implDed_range h k ?_ w) w
      rcases hr with h1 | ⟨h1, h2⟩
      · exact .inl h1
      · refine .inr ⟨h1, ?_⟩
        have : ¬ (1 ≤ k ∧ k ≤ 100) := of_decide_eq_false h2
        exact decide_eq_false (by omega)
end Go.Proofs.Ytajfjfgpiggekaa
