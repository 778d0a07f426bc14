/- CountCusps: contracts of both sides. -/
import Derived.Test.YtfchfakkbdfajaaDoorUn
import Derived.Test.YtfchfakkbdfajaaDoorA
namespace Go.Proofs.YtfchfakkbdfajaaDoor
open Go.ChangeShapes Go.WideShapes Go.ChangeAt Go.RowKit

/-- the numbers of cusps by the divisors up to k -/
def ccs (n : Int) : Nat → Int
  | 0 => 0
  | k + 1 => if n % ((k : Int) + 1) = 0 then ccs n k + (((cop (Int.gcd ((k : Int) + 1) (n / ((k : Int) + 1)) : Nat) (Int.gcd ((k : Int) + 1) (n / ((k : Int) + 1)))).length : Nat) : Int) else ccs n k
theorem gcd_le {u q : Int} (hu : 1 ≤ u) : 1 ≤ Int.gcd u q ∧ (Int.gcd u q : Int) ≤ u := by
  have h1 : (Int.gcd u q : Int) ∣ u := Int.gcd_dvd_left ..
  have h2 := Int.le_of_dvd (by omega) h1
  have h3 : Int.gcd u q ≠ 0 := by
    intro h
    rw [h] at h1
    have : u = 0 := by simpa using h1
    omega
  omega
theorem ccs_bd {n : Int} (hn : 1 ≤ n) (h : n ≤ 1000) : ∀ k : Nat, k ≤ 1000 → 0 ≤ ccs n k ∧ ccs n k ≤ 1000 * k
  | 0, _ => by simp [ccs]
  | k + 1, hk => by
    have := ccs_bd hn h k (by omega)
    rw [ccs]
    split
    · have h1 := cop_len (Int.gcd ((k : Int) + 1) (n / ((k : Int) + 1)) : Nat) (Int.gcd ((k : Int) + 1) (n / ((k : Int) + 1)))
      have h2 := gcd_le (u := (k : Int) + 1) (q := n / ((k : Int) + 1)) (by omega)
      omega
    · omega
theorem ccs_yes {n u q : Int} {k g : Nat} (hu : (k : Int) + 1 = u) (h : n % u = 0) (hq : n / u = q) (hg : Int.gcd u q = g) : ccs n (k + 1) = ccs n k + ((cop (g : Int) g).length : Int) := by
  subst hu hq hg
  rw [ccs, if_pos h]
theorem ccs_no {n u : Int} {k : Nat} (hu : (k : Int) + 1 = u) (h : ¬ n % u = 0) : ccs n (k + 1) = ccs n k := by
  subst hu
  rw [ccs, if_neg h]

set_option maxHeartbeats 1000000 in
theorem implCc_yes (n : Int) (h1 : 1 ≤ n) (h2 : n ≤ 1000) (w : World) :
    Calls Tryd.prog 50 #[(.int .i64 n)] w fun e w' => e = .returned (.tuple #[(.int .i64 (ccs n n.toNat)), (.int .i64 0)]) ∧ Below w.heap.size w w' := by
  obtain ⟨N, hN⟩ : ∃ N : Nat, n.toNat = N := ⟨_, rfl⟩
  rw [hN]
  have HN : Hid ((N : Int) = n) := Lib.hid (by omega)
  clear hN
  go_enter Tryd.func50, Tryd.ntmps50
  go_wp2
  go_loopw [4, 5] (fun v x wr => ∃ (k : Nat) (c u : Int), k ≤ N ∧ (k : Int) + 1 = u ∧ x = (.int .i64 u) ∧ v = (.int .i64 c) ∧ Hid (ccs n k = c) ∧ 0 ≤ c ∧ c ≤ 1000000 ∧ Below w.heap.size w wr) (fun _ x _ => (n + 1 - intOf x).toNat)
  case atStart => exact ⟨0, 0, 1, Nat.zero_le _, by simp, rfl, rfl, Lib.hid (by simp [ccs]), by omega, by omega, own_refl _⟩
  case round =>
    obtain ⟨k, c, u, hk, hu, rfl, rfl, HC, _, _, T⟩ := hrel
    have HU := Lib.hid hu
    have hu1 : 1 ≤ u ∧ u ≤ n + 1 := by have := HN.out; omega
    obtain ⟨_, _⟩ := hu1
    have hz := T.size
    by_cases hlt : u ≤ n
    · have HB := Lib.hid (ccs_bd h1 h2 (k + 1) (by have := HN.out; omega))
      by_cases hr : n % u = 0
      · have hr' : (n % u == 0) = true := by simp [hr]
        obtain ⟨q, hq⟩ : ∃ q : Int, n / u = q := ⟨_, rfl⟩
        obtain ⟨g, hg⟩ : ∃ g : Nat, Int.gcd u q = g := ⟨_, rfl⟩
        have hg1 := gcd_le (u := u) (q := q) (by omega)
        rw [hg] at hg1
        have hq1 : 0 ≤ q := by rw [← hq]; exact Int.ediv_nonneg (by omega) (by omega)
        have hq2 : q ≤ n := by rw [← hq]; exact Int.ediv_le_self _ (by omega)
        obtain ⟨m, hm⟩ : ∃ m : Int, ((cop (g : Int) g).length : Int) = m := ⟨_, rfl⟩
        have HS := Lib.hid (ccs_yes hu hr hq hg)
        obtain ⟨x, hx⟩ : ∃ x : Int, (g : Int) = x := ⟨_, rfl⟩
        have HD := Lib.hid (fun w => commonDivisor_is x u q (by rw [hg]; exact hx) (by unfold Mid; omega) (by unfold Mid; omega) w)
        have HP := Lib.hid (fun w => countUnits_any x g hx (by omega) w)
        have hc2 : Hid (ccs n (k + 1) = c + m) := Lib.hid (by rw [HS.out, HC.out, hm])
        have hc3 : 0 ≤ c + m ∧ c + m ≤ 1000000 := by have := hc2.out; have := HB.out; have := HN.out; omega
        have hm0 : 0 ≤ m ∧ m ≤ 1000000 := by have := cop_len (g : Int) g; omega
        have HP' : Hid (∀ w : World, Calls Tryd.prog 64 #[(.int .i64 x)] w fun e w' => e = .returned (.int .i64 m) ∧ Below w.heap.size w w') := Lib.hid (fun w => by have := HP.out w; rw [← hx, hm] at this; rw [← hx]; exact this)
        obtain ⟨_, _⟩ := hc3
        obtain ⟨_, _⟩ := hm0
        clear hg hu hr hm hg1 HP HS hx
        go_wp2_with fail
        refine (HD.out _).mono ?_
        rintro e w1 ⟨rfl, hb1⟩
        go_wp2_with fail
        refine (HP'.out _).mono ?_
        rintro e w2 ⟨rfl, hb2⟩
        go_wp2
        go_roundw
        case rel => exact ⟨k + 1, c + m, u + 1, by have := HU.out; have := HN.out; omega, by have := HU.out; simp; omega, rfl, rfl, hc2, by omega, by omega, by first | exact own_trans (own_trans T hb1) hb2 | exact own_trans T hb2⟩
        case measure => simp [intOf]; omega
      · have hr' : (n % u == 0) = false := by simp [hr]
        have HS := Lib.hid (ccs_no hu hr)
        have hc2 : Hid (ccs n (k + 1) = c) := Lib.hid (by rw [HS.out]; exact HC.out)
        clear hu hr
        go_wp2
        go_roundw
        case rel => exact ⟨k + 1, c, u + 1, by have := HU.out; have := HN.out; omega, by have := HU.out; simp; omega, rfl, rfl, hc2, by omega, by omega, T⟩
        case measure => simp [intOf]; omega
    · have HE : Hid (k = N) := Lib.hid (by have := HN.out; omega)
      clear hu
      go_wp2
      go_ret2
      exact ⟨ret_int2 (by rw [← HE.out]; exact HC.out.symm), T⟩
theorem implCc_no (n : Int) (h : ¬ (1 ≤ n ∧ n ≤ 1000)) (w : World) :
    Calls Tryd.prog 50 #[(.int .i64 n)] w fun e w' => e = .returned (.tuple #[(.int .i64 0), (.int .i64 2)]) ∧ Below w.heap.size w w' := by
  rcases (show n < 1 ∨ 1000 < n by omega) with h1 | h1
  all_goals
    clear h
    go_enter Tryd.func50, Tryd.ntmps50
    go_wp2
    go_ret2
    exact ⟨rfl, own_refl _⟩
end Go.Proofs.YtfchfakkbdfajaaDoor
