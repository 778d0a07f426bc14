/- The model's SumsOf. -/
import Derived.Test.YthggpcdbnopabaaSmI
import Derived.Test.YthggpcdbnopabaaDsK
namespace Go.Proofs.Ythggpcdbnopabaa
open Go.ChangeShapes Go.WideShapes Go.ChangeAt Go.RowKit

theorem specSums_no (k : Int) (h : inR k 1 100 = false) (w : World) : Calls Try.prog 19 #[(.int .i64 k)] w (RetFs 0 [] 2 w) := by
  have H := Lib.hid (fun w => l01In_is false k 1 100 h w)
  clear h
  go_enter Try.func19, Try.ntmps19
  go_wp2_with fail
  refine (H.out _).mono ?_
  rintro e w1 ⟨rfl, rfl⟩
  go_wp2
  go_ret2
  exact ⟨_, rfl, SlF.nil _ _ _ (Nat.le_refl _), by repeat (first | with_reducible exact own_refl _ | with_reducible assumption | with_reducible apply own_alloc | with_reducible apply own_drewN | with_reducible apply own_drew | ((with_reducible refine own_setCell ?_ ?_ _); rotate_left; focus (first | (simp; done) | (simp; omega))) | (with_reducible (refine own_trans ?_ (by assumption))))⟩
theorem smL_len (k : Int) : ∀ us : List Int, (smL k us).length = 2 * us.length
  | [] => rfl
  | u :: us => by simp only [smL, List.length_cons, smL_len k us]; omega
set_option maxRecDepth 100000 in
set_option maxHeartbeats 4000000 in
theorem specSums_yes (k : Int) (K N : Nat) (hK : (K : Int) = k) (h1 : 1 ≤ k) (h2 : k ≤ 100) (hN : (cop k K).length = N) (w : World) : Calls Try.prog 19 #[(.int .i64 k)] w (RetFs N (smL k (cop k K)) 0 w) := by
  have HI := Lib.hid (fun w => l01In_is true k 1 100 (decide_eq_true ⟨h1, h2⟩) w)
  have HK := Lib.hid hK
  have HN := Lib.hid hN
  have hK2 : K ≤ 100 := by omega
  clear hK hN
  go_enter Try.func19, Try.ntmps19
  go_wp2_with fail
  refine (HI.out _).mono ?_
  rintro e w1 ⟨rfl, rfl⟩
  go_wp2
  go_loopw [4, 5] (fun v x wr => ∃ j : Nat, j ≤ K ∧ x = (.int .i64 ((j : Int) + 1)) ∧ GrF wr w.heap.size v (cop k j).length (smL k (cop k j)) ∧ Below w.heap.size w wr) (fun _ x _ => (k + 1 - intOf x).toNat)
  case atStart => exact ⟨0, Nat.zero_le _, by simp, GrF.madeAt rfl (Nat.le_refl _), by repeat (first | with_reducible exact own_refl _ | with_reducible assumption | with_reducible apply own_alloc | with_reducible apply own_drewN | with_reducible apply own_drew | ((with_reducible refine own_setCell ?_ ?_ _); rotate_left; focus (first | (simp; done) | (simp; omega))) | (with_reducible (refine own_trans ?_ (by assumption))))⟩
  case round =>
    obtain ⟨j, hj, rfl, hF, T⟩ := hrel
    obtain ⟨u, hu⟩ : ∃ u : Int, (j : Int) + 1 = u := ⟨_, rfl⟩
    have HU := Lib.hid hu
    have hu1 : 1 ≤ u ∧ u ≤ k + 1 := by have := HK.out; omega
    obtain ⟨_, _⟩ := hu1
    have hlen := cop_len k j
    obtain ⟨ad, cap, hv⟩ := hF.shape
    subst hv
    obtain ⟨m, hm⟩ : ∃ m, (cop k j).length = m := ⟨_, rfl⟩
    obtain ⟨us, hus⟩ : ∃ us, cop k j = us := ⟨_, rfl⟩
    rw [hm] at hF hlen ⊢
    rw [hus] at hF hm
    have HM := Lib.hid (And.intro hm hus)
    have hz := T.size
    rw [hu]
    by_cases hlt : u ≤ k
    · obtain ⟨g, hg⟩ : ∃ g : Int, ((Int.gcd u k : Nat) : Int) = g := ⟨_, rfl⟩
      have HD := Lib.hid (fun w => l01Gcd_is g u k hg (by unfold Mid; omega) (by unfold Mid; omega) w)
      by_cases h3 : g = 1
      · have hgu : Int.gcd u k = 1 := by omega
        obtain ⟨x, hx⟩ : ∃ x, lowP (ls u k) (12 * k) = x := ⟨_, rfl⟩
        obtain ⟨y, hy⟩ : ∃ y, lowQ (ls u k) (12 * k) = y := ⟨_, rfl⟩
        subst h3
        have HS := Lib.hid (cop_yes hu hg)
        have HT : Hid (smL k (us ++ [u]) = smL k us ++ [x, y]) := Lib.hid (by rw [smL_append]; simp only [smL, hx, hy])
        have HL := Lib.hid (fun w => l07Sum_is k.toNat u k (by omega) (by omega) (by omega) (by unfold I64; omega) hgu w)
        have hmd := ls_mid h1 (by omega) hgu
        have HR := Lib.hid (fun w => specLow_at (ls u k) (12 * k) x y hx hy hmd.1 hmd.2.1 hmd.2.2 w)
        generalize ls u k = L at *
        clear hg hu hx hy hmd hgu hm hus
        go_wp2_with fail
        refine (HD.out _).mono ?_
        rintro e w1 ⟨rfl, rfl⟩
        go_wp2_with fail
        refine (HL.out _).mono ?_
        rintro e w1 ⟨rfl, rfl⟩
        go_wp2_with fail
        refine (HR.out _).mono ?_
        rintro e w2 ⟨rfl, hb2⟩
        have hF2 := hF.own hb2
        have T2 := own_trans T hb2
        have hz2 := T2.size
        go_wp2_with (at_builtin; refine appF rfl _ _ rfl w.heap.size w2 (.slice ad m cap) m (smL k us) x y rfl hF2 w2.heap.size rfl rfl (by omega) (by omega) ?_; intro v' w3 hF3 hb3)
        go_roundw
        case rel => exact ⟨j + 1, by have := HU.out; have := HK.out; omega, by have := HU.out; simp; omega, by rw [HS.out, HM.out.2, List.length_append, HM.out.1, HT.out]; exact hF3, T2.trans hb3⟩
        case measure => simp [intOf]; omega
      · have HS := Lib.hid (cop_no hu (fun h => h3 (hg.symm.trans h)))
        have h3' : (g == 1) = false := by simp [h3]
        clear hg hu hm hus
        go_wp2_with fail
        refine (HD.out _).mono ?_
        rintro e w1 ⟨rfl, rfl⟩
        go_wp2
        go_roundw
        case rel => exact ⟨j + 1, by have := HU.out; have := HK.out; omega, by have := HU.out; simp; omega, by rw [HS.out, HM.out.2, HM.out.1]; exact hF, T⟩
        case measure => simp [intOf]; omega
    · have HE : Hid (j = K) := Lib.hid (by have := HK.out; omega)
      clear hm hus hu
      go_wp2
      go_ret2
      have e1 : m = N := by rw [← HM.out.1, ← HM.out.2, HE.out]; exact HN.out
      subst e1
      exact ⟨_, rfl, by rw [← HE.out, HM.out.2]; exact hF.sl, T⟩
end Go.Proofs.Ythggpcdbnopabaa
