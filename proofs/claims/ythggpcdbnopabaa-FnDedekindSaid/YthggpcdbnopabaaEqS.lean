/- The model's EqualTo. -/
import Derived.Test.YthggpcdbnopabaaEqI
namespace Go.Proofs.Ythggpcdbnopabaa
open Go.ChangeShapes Go.WideShapes Go.ChangeAt Go.RowKit

theorem Gr.madeE {w : World} {L g : Nat} (hg : w.heap.size = g) (hL : L ≤ g) : Gr (w.alloc (.cells #[] 2)) L (.slice (some ⟨g, 0, none⟩) 0 0) [] := by
  subst hg
  exact World.ownsRow_made w #[] 0 hL (by unfold maxLen; omega) (by simp)
theorem specEq_no (h k c : Int) (hc0 : (c != 0) = true) (hc : ∀ w : World, Calls Try.prog 31 #[(.int .i64 h), (.int .i64 k), (.int .i64 100)] w fun e w' => e = .returned (.int .i64 c) ∧ w = w') (w : World) :
    Calls Try.prog 14 #[(.int .i64 h), (.int .i64 k)] w (RetE [] c w) := by
  have HC := Lib.hid hc
  clear hc
  have hc1 : (c == 0) = false := by simpa using hc0
  go_enter Try.func14, Try.ntmps14
  go_wp2_with fail
  refine (HC.out _).mono ?_
  rintro e w1 ⟨rfl, rfl⟩
  go_wp2
  go_ret2
  exact ⟨_, rfl, Sl.nil _ _ _ (Nat.le_refl _), by repeat (first | with_reducible exact own_refl _ | with_reducible assumption | with_reducible apply own_alloc | with_reducible apply own_drewN | with_reducible apply own_drew | ((with_reducible refine own_setCell ?_ ?_ _); rotate_left; focus (first | (simp; done) | (simp; omega))) | (with_reducible (refine own_trans ?_ (by assumption))))⟩
set_option maxRecDepth 100000 in
set_option maxHeartbeats 4000000 in
theorem specEq_yes (h k : Int) (K : Nat) (hK : (K : Int) = k) (hh : inW h 1000000000 = true) (h1 : 1 ≤ k) (h2 : k ≤ 100) (hg : Int.gcd h k = 1) (w : World) : Calls Try.prog 14 #[(.int .i64 h), (.int .i64 k)] w (RetE (eqL h k (cop k K)) 0 w) := by
  have HC := Lib.hid (fun w => l07Code_ok h k 100 hh (decide_eq_true ⟨h1, h2⟩) (by omega) hg w)
  have HO := Lib.hid (fun w => l07Sum_is k.toNat h k (by omega) h1 (by omega) (ent_i64 (ent_iff.1 hh)) hg w)
  have HK := Lib.hid hK
  have hK2 : K ≤ 100 := by omega
  obtain ⟨o, ho⟩ : ∃ o, ls h k = o := ⟨_, rfl⟩
  rw [ho] at HO
  have HOO := Lib.hid ho
  clear hK hg ho hh
  go_enter Try.func14, Try.ntmps14
  go_wp2_with fail
  refine (HC.out _).mono ?_
  rintro e w1 ⟨rfl, rfl⟩
  go_wp2_with fail
  refine (HO.out _).mono ?_
  rintro e w1 ⟨rfl, rfl⟩
  go_wp2
  go_loopw [8, 9] (fun v x wr => ∃ j : Nat, j ≤ K ∧ x = (.int .i64 ((j : Int) + 1)) ∧ Gr wr w.heap.size v (eqL h k (cop k j)) ∧ Below w.heap.size w wr) (fun _ x _ => (k + 1 - intOf x).toNat)
  case atStart => exact ⟨0, Nat.zero_le _, by simp, Gr.madeE rfl (Nat.le_refl _), by repeat (first | with_reducible exact own_refl _ | with_reducible assumption | with_reducible apply own_alloc | with_reducible apply own_drewN | with_reducible apply own_drew | ((with_reducible refine own_setCell ?_ ?_ _); rotate_left; focus (first | (simp; done) | (simp; omega))) | (with_reducible (refine own_trans ?_ (by assumption))))⟩
  case round =>
    obtain ⟨j, hj, rfl, hF, T⟩ := hrel
    obtain ⟨u, hu⟩ : ∃ u : Int, (j : Int) + 1 = u := ⟨_, rfl⟩
    have HU := Lib.hid hu
    have hu1 : 1 ≤ u ∧ u ≤ k + 1 := by have := HK.out; omega
    obtain ⟨_, _⟩ := hu1
    have hlen := cop_len k j
    have hle := eqL_len h k (cop k j)
    obtain ⟨us, hus⟩ : ∃ us, cop k j = us := ⟨_, rfl⟩
    obtain ⟨c, hc⟩ : ∃ c, eqL h k us = c := ⟨_, rfl⟩
    rw [hus] at hF hle hlen
    rw [hc] at hF hle
    have HM := Lib.hid (And.intro hus hc)
    obtain ⟨ad, cap, hv⟩ := hF.shape
    subst hv
    have hz := T.size
    have hc100 : c.length ≤ 100 := by omega
    clear hle hlen
    rw [hu]
    by_cases hlt : u ≤ k
    · obtain ⟨g, hg⟩ : ∃ g : Int, ((Int.gcd u k : Nat) : Int) = g := ⟨_, rfl⟩
      have HD := Lib.hid (fun w => l01Gcd_is g u k hg (by unfold Mid; omega) (by unfold Mid; omega) w)
      by_cases h3 : g = 1
      · have hgu : Int.gcd u k = 1 := by omega
        subst h3
        have HS := Lib.hid (cop_yes hu hg)
        have HL := Lib.hid (fun w => l07Sum_is k.toNat u k (by omega) (by omega) (by omega) (by unfold I64; omega) hgu w)
        obtain ⟨L, hL⟩ : ∃ L, ls u k = L := ⟨_, rfl⟩
        rw [hL] at HL
        by_cases he : L = o
        · have HQ : Hid (eqL h k (us ++ [u]) = c ++ [u]) := Lib.hid (by rw [eqL_yes _ (by rw [hL, HOO.out, he]), hc])
          have e1 : (L == o) = true := by simp [he]
          clear hg hu hgu hus hc he hL
          go_wp2_with fail
          refine (HD.out _).mono ?_
          rintro e w1 ⟨rfl, rfl⟩
          go_wp2_with fail
          refine (HL.out _).mono ?_
          rintro e w1 ⟨rfl, rfl⟩
          go_wp2_with (at_builtin; refine app64 rfl _ _ rfl w.heap.size _ (.slice ad c.length cap) c u rfl hF _ rfl rfl (by omega) (by omega) ?_; intro v' w3 hF3 hb3)
          go_roundw
          case rel => exact ⟨j + 1, by have := HU.out; have := HK.out; omega, by have := HU.out; simp; omega, by rw [HS.out, HM.out.1, HQ.out]; exact hF3, T.trans hb3⟩
          case measure => simp [intOf]; omega
        · have HQ : Hid (eqL h k (us ++ [u]) = c) := Lib.hid (by rw [eqL_no _ (by rw [hL, HOO.out]; exact he), hc])
          have e1 : (L == o) = false := by simp [he]
          clear hg hu hgu hus hc he hL
          go_wp2_with fail
          refine (HD.out _).mono ?_
          rintro e w1 ⟨rfl, rfl⟩
          go_wp2_with fail
          refine (HL.out _).mono ?_
          rintro e w1 ⟨rfl, rfl⟩
          go_wp2
          go_roundw
          case rel => exact ⟨j + 1, by have := HU.out; have := HK.out; omega, by have := HU.out; simp; omega, by rw [HS.out, HM.out.1, HQ.out]; exact hF, T⟩
          case measure => simp [intOf]; omega
      · have HS := Lib.hid (cop_no hu (fun h => h3 (hg.symm.trans h)))
        have h3' : (g == 1) = false := by simp [h3]
        clear hg hu hus hc
        go_wp2_with fail
        refine (HD.out _).mono ?_
        rintro e w1 ⟨rfl, rfl⟩
        go_wp2
        go_roundw
        case rel => exact ⟨j + 1, by have := HU.out; have := HK.out; omega, by have := HU.out; simp; omega, by rw [HS.out, HM.out.1, HM.out.2]; exact hF, T⟩
        case measure => simp [intOf]; omega
    · have HE : Hid (j = K) := Lib.hid (by have := HK.out; omega)
      clear hus hc hu
      go_wp2
      go_ret2
      exact ⟨_, rfl, by rw [← HE.out, HM.out.1, HM.out.2]; exact hF.sl, T⟩
end Go.Proofs.Ythggpcdbnopabaa
