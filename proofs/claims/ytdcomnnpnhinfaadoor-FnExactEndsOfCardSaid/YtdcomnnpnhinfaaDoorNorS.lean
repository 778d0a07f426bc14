/- NormalPair: contracts of both sides. -/
import Derived.Test.YtdcomnnpnhinfaaDoorNorm
namespace Go.Proofs.YtdcomnnpnhinfaaDoor
open Go.ChangeShapes Go.WideShapes Go.ChangeAt Go.RowKit

theorem nrm_last {n x y : Int} (h1 : 1 ≤ n) (h : Rst2 n (x, y)) : bst n x y (cop n (n.toNat - 1)) (x, y) = nrm n x y := by
  unfold nrm
  rcases (show n = 1 ∨ 2 ≤ n by omega) with rfl | h2
  · obtain ⟨a, b, c, d⟩ := h
    obtain rfl : x = 0 := by simp only at a b; omega
    obtain rfl : y = 0 := by simp only at c d; omega
    decide
  · have e : n.toNat = n.toNat - 1 + 1 := by omega
    have hu : ((n.toNat - 1 : Nat) : Int) + 1 = n := by omega
    conv => rhs; rw [e]
    rw [cop_no hu (by rw [Int.gcd_self]; omega)]
theorem bst_snoc (n x y u : Int) (l : List Int) (q : Int × Int) : bst n x y (l ++ [u]) q = stp n x y u (bst n x y l q) := by
  rw [bst_append]
  rfl
theorem rests_gcd {n c d : Int} (h : Rst2 n (c, d)) (h2 : n ≤ 1000000) : Mid c ∧ Mid d ∧ Mid n ∧ Mid (Int.gcd c d : Int) := by
  obtain ⟨a, b, e, f⟩ := h
  simp only at a b e f
  have hg : (Int.gcd c d : Int) ≤ 1000000 := by
    rcases (show c = 0 ∨ 0 < c by omega) with h0 | h0
    · subst h0
      rw [Int.gcd_zero_left]
      omega
    · have := Int.le_of_dvd h0 (Int.gcd_dvd_left c d)
      omega
  unfold Mid
  omega

set_option maxHeartbeats 1000000 in
theorem l06Normal_no (n c d : Int) (h2 : n ≤ 1000000) (hr : Rst2 n (c, d)) (hp : isP n c d = false) (w : World) :
    Calls Tryd.prog 58 #[(.int .i64 n), (.int .i64 c), (.int .i64 d)] w fun e w' => e = .returned (.tuple #[(.int .i64 0), (.int .i64 0), .bool false]) ∧ Below w.heap.size w w' := by
  obtain ⟨mc, md', mn, mg⟩ := rests_gcd hr h2
  obtain ⟨g, hg⟩ : ∃ g : Int, ((Int.gcd c d : Nat) : Int) = g := ⟨_, rfl⟩
  obtain ⟨z, hz⟩ : ∃ z : Int, ((Int.gcd g n : Nat) : Int) = z := ⟨_, rfl⟩
  have hz' : (z != 1) = true := by
    unfold isP at hp
    rw [hg] at hp
    have := of_decide_eq_false hp
    simp
    omega
  have hz'' : (z == 1) = false := by simpa using hz'
  rw [hg] at mg
  have HA := Lib.hid (fun w => l01Gcd_is g c d hg mc md' w)
  have HB := Lib.hid (fun w => l01Gcd_is z g n hz mg mn w)
  clear mc md' mn mg hg hz hp hr
  go_enter Tryd.func58, Tryd.ntmps58
  go_wp2_with fail
  refine (HA.out _).mono ?_
  rintro e w1 ⟨rfl, rfl⟩
  go_wp2_with fail
  refine (HB.out _).mono ?_
  rintro e w1 ⟨rfl, rfl⟩
  go_wp2
  go_ret3
  exact ⟨rfl, own_refl _⟩
set_option maxHeartbeats 4000000 in
theorem l06Normal_yes (n c d : Int) (h1 : 1 ≤ n) (h2 : n ≤ 1000) (hr : Rst2 n (c, d)) (hp : isP n c d = true) (r : Int × Int) (hn : nrm n c d = r) (w : World) :
    Calls Tryd.prog 58 #[(.int .i64 n), (.int .i64 c), (.int .i64 d)] w fun e w' => e = .returned (.tuple #[(.int .i64 r.1), (.int .i64 r.2), .bool true]) ∧ Below w.heap.size w w' := by
  obtain ⟨mc, md', mn, mg⟩ := rests_gcd hr (by omega)
  obtain ⟨g, hg⟩ : ∃ g : Int, ((Int.gcd c d : Nat) : Int) = g := ⟨_, rfl⟩
  obtain ⟨z, hz⟩ : ∃ z : Int, ((Int.gcd g n : Nat) : Int) = z := ⟨_, rfl⟩
  obtain rfl : z = 1 := by
    unfold isP at hp
    rw [hg] at hp
    have := of_decide_eq_true hp
    omega
  rw [hg] at mg
  have HA := Lib.hid (fun w => l01Gcd_is g c d hg mc md' w)
  have HB := Lib.hid (fun w => l01Gcd_is 1 g n hz mg mn w)
  have HR := Lib.hid ((nrm_last h1 hr).trans hn)
  have HRR := Lib.hid hr
  obtain ⟨r1, r2, r3, r4⟩ := hr
  simp only at r1 r2 r3 r4
  clear mc md' mn mg hg hz hp hn
  go_enter Tryd.func58, Tryd.ntmps58
  go_wp2_with fail
  refine (HA.out _).mono ?_
  rintro e w1 ⟨rfl, rfl⟩
  go_wp2_with fail
  refine (HB.out _).mono ?_
  rintro e w1 ⟨rfl, rfl⟩
  go_wp2
  go_loopw [9, 10, 11] (fun s t v wr => ∃ (k : Nat) (p q u : Int), (k : Int) + 1 = u ∧ u ≤ n ∧ s = (.int .i64 p) ∧ t = (.int .i64 q) ∧ v = (.int .i64 u) ∧ Hid (bst n c d (cop n k) (c, d) = (p, q)) ∧ Below w.heap.size w wr) (fun _ _ v _ => (n - intOf v).toNat)
  case atStart => exact ⟨0, c, d, 1, rfl, h1, rfl, rfl, rfl, Lib.hid rfl, own_refl _⟩
  case round =>
    obtain ⟨k, p, q, u, hu, hun, rfl, rfl, rfl, HQ, T⟩ := hrel
    have HU := Lib.hid hu
    have hu1 : 1 ≤ u := by omega
    by_cases hlt : u < n
    · obtain ⟨g, hg⟩ : ∃ g : Int, ((Int.gcd u n : Nat) : Int) = g := ⟨_, rfl⟩
      have HD := Lib.hid (fun w => l01Gcd_is g u n hg (by unfold Mid; omega) (by unfold Mid; omega) w)
      by_cases hg1 : g = 1
      · subst hg1
        have HC := Lib.hid (cop_yes hu hg)
        obtain ⟨a, ha⟩ : ∃ a, u * c % n = a := ⟨_, rfl⟩
        obtain ⟨b, hb⟩ : ∃ b, u * d % n = b := ⟨_, rfl⟩
        have HST : Hid (stp n c d u (p, q) = if lss2 a b p q = true then (a, b) else (p, q)) := Lib.hid (by unfold stp; rw [ha, hb])
        have HN : Hid (bst n c d (cop n (k + 1)) (c, d) = stp n c d u (p, q)) := Lib.hid (by rw [HC.out, bst_snoc, HQ.out])
        have e1 : 0 ≤ u * c ∧ u * c ≤ 1000000 := ⟨Int.mul_nonneg (by omega) (by omega), by have := Int.mul_le_mul (show u ≤ 1000 by omega) (show c ≤ 1000 by omega) r1 (by omega); omega⟩
        have e2 : 0 ≤ u * d ∧ u * d ≤ 1000000 := ⟨Int.mul_nonneg (by omega) (by omega), by have := Int.mul_le_mul (show u ≤ 1000 by omega) (show d ≤ 1000 by omega) r3 (by omega); omega⟩
        have e3 : 0 ≤ a ∧ a < n := by rw [← ha]; exact ⟨Int.emod_nonneg _ (by omega), Int.emod_lt_of_pos _ (by omega)⟩
        have e4 : 0 ≤ b ∧ b < n := by rw [← hb]; exact ⟨Int.emod_nonneg _ (by omega), Int.emod_lt_of_pos _ (by omega)⟩
        have ta : (u * c).tmod n = a := by rw [Int.tmod_eq_emod_of_nonneg (by omega), ha]
        have tb : (u * d).tmod n = b := by rw [Int.tmod_eq_emod_of_nonneg (by omega), hb]
        obtain ⟨_, _⟩ := e1
        obtain ⟨_, _⟩ := e2
        obtain ⟨_, _⟩ := e3
        obtain ⟨_, _⟩ := e4
        clear hu hg
        go_wp2_with fail
        refine (HD.out _).mono ?_
        rintro e w1 ⟨rfl, rfl⟩
        go_wp2
        go_quiet (fail)
        generalize hW : wr.drewN _ = W
        have T : Below w.heap.size w W := by rw [← hW]; exact below_drewN' T _
        clear hW ha hb ta tb
        by_cases c1 : a < p
        · have HW : Hid (stp n c d u (p, q) = (a, b)) := Lib.hid (by rw [HST.out, if_pos (lss2_1 c1)])
          go_wp2
          go_roundw
          case rel => exact ⟨k + 1, a, b, u + 1, by have := HU.out; simp; omega, by omega, rfl, rfl, rfl, Lib.hid (HN.out.trans HW.out), T⟩
          case measure => simp [intOf]; omega
        · by_cases c2 : a = p
          · subst c2
            by_cases c3 : b < q
            · have HW : Hid (stp n c d u (a, q) = (a, b)) := Lib.hid (by rw [HST.out, if_pos (lss2_3 c3)])
              go_wp2
              go_roundw
              case rel => exact ⟨k + 1, a, b, u + 1, by have := HU.out; simp; omega, by omega, rfl, rfl, rfl, Lib.hid (HN.out.trans HW.out), T⟩
              case measure => simp [intOf]; omega
            · have HW : Hid (stp n c d u (a, q) = (a, q)) := Lib.hid (by rw [HST.out, if_neg (by rw [lss2_4 c3]; simp)])
              go_wp2
              go_roundw
              case rel => exact ⟨k + 1, a, q, u + 1, by have := HU.out; simp; omega, by omega, rfl, rfl, rfl, Lib.hid (HN.out.trans HW.out), T⟩
              case measure => simp [intOf]; omega
          · have HW : Hid (stp n c d u (p, q) = (p, q)) := Lib.hid (by rw [HST.out, if_neg (by rw [lss2_2 c1 c2]; simp)])
            go_wp2
            go_roundw
            case rel => exact ⟨k + 1, p, q, u + 1, by have := HU.out; simp; omega, by omega, rfl, rfl, rfl, Lib.hid (HN.out.trans HW.out), T⟩
            case measure => simp [intOf]; omega
      · have HC := Lib.hid (cop_no hu (fun h => hg1 (hg.symm.trans h)))
        have HN : Hid (bst n c d (cop n (k + 1)) (c, d) = (p, q)) := Lib.hid (by rw [HC.out]; exact HQ.out)
        have hg2 : (g != 1) = true := by simp [hg1]
        have hg3 : (g == 1) = false := by simp [hg1]
        clear hu hg hg1
        go_wp2_with fail
        refine (HD.out _).mono ?_
        rintro e w1 ⟨rfl, rfl⟩
        go_wp2
        go_roundw
        case rel => exact ⟨k + 1, p, q, u + 1, by have := HU.out; simp; omega, by omega, rfl, rfl, rfl, HN, T⟩
        case measure => simp [intOf]; omega
    · have HE : Hid (r = (p, q)) := Lib.hid (by
        have := HQ.out
        rw [show k = n.toNat - 1 by omega, HR.out] at this
        exact this)
      clear hu
      go_wp2
      go_ret3
      exact ⟨by simp [HE.out], T⟩
end Go.Proofs.YtdcomnnpnhinfaaDoor
