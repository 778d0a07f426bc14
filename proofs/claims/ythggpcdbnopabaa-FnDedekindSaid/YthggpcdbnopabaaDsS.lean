/- The model's sum of h and k, by reciprocity. -/
import Derived.Test.YthggpcdbnopabaaDsD
namespace Go.Proofs.Ythggpcdbnopabaa
open Go.ChangeShapes Go.WideShapes Go.ChangeAt Go.RowKit

theorem ls_one (h : Int) : ls h 1 = 0 := by
  have h0 : (rst h 1).toNat = 0 := by
    have := rst_bd (x := h) (n := 1) (by omega)
    omega
  unfold ls
  rw [h0]
  rfl
theorem ls_rec {h k : Int} (hk : 2 ≤ k) (hc : Int.gcd h k = 1) : 1 ≤ rst h k ∧ rst h k < k ∧ Int.gcd k (rst h k) = 1 ∧
    rst h k * rst h k + k * k + 1 - 3 * rst h k * k - k * ls k (rst h k) = rst h k * ls h k := by
  obtain ⟨H, K, e1, e2, e3, e4, e5⟩ := ls_parts (show 1 ≤ k by omega) hc
  have hH : 1 ≤ H := by
    rcases Nat.eq_zero_or_pos H with h0 | h0
    · subst h0; rw [Nat.gcd_zero_left] at e4; omega
    · exact h0
  have hg : Int.gcd k (rst h k) = 1 := by
    rw [← e1, ← e2, Int.gcd_comm]; simpa using e4
  refine ⟨by omega, by omega, hg, ?_⟩
  have h6 : ls k (rst h k) = Dd.Lf K H := by
    obtain ⟨K', H', f1, f2, f3, f4, f5⟩ := ls_parts (h := k) (k := rst h k) (by omega) hg
    obtain rfl : H' = H := by omega
    rw [f5]
    have h7 : K' = K % H' := by
      have h8 : (K' : Int) = ((K % H' : Nat) : Int) := by
        rw [f1, rst_emod _ _ (by omega), ← e1, ← e2]; simp
      exact_mod_cast h8
    rw [h7]
    exact Dd.Lf_mod hH (by rw [Nat.gcd_comm]; exact e4)
  have h7 := Dd.recip hH (show 1 ≤ K by omega) e4
  rw [h6, e5, ← e1, ← e2]
  omega
set_option maxHeartbeats 1000000 in
theorem l07Sum_is : ∀ (N : Nat) (h k : Int), k ≤ N → 1 ≤ k → k ≤ 20000 → I64 h → Int.gcd h k = 1 → ∀ w : World,
    Calls Try.prog 33 #[(.int .i64 h), (.int .i64 k)] w fun e w' => e = .returned (.int .i64 (ls h k)) ∧ w = w' := by
  intro N
  induction N with
  | zero => intro h k h1 h2; omega
  | succ N ih =>
    intro h k hN h1 h2 hh hc w
    by_cases hk : k = 1
    · subst hk
      have H0 := Lib.hid (ls_one h)
      clear hc ih
      go_enter Try.func33, Try.ntmps33
      go_wp2
      go_ret
      exact ⟨ret_int H0.out.symm, rfl⟩
    · obtain ⟨r1, r2, r3, r4⟩ := ls_rec (show 2 ≤ k by omega) hc
      have b1 := ls_bd r1 (show rst h k ≤ 20000 by omega) r3
      have b2 := ls_bd h1 h2 hc
      have HI := Lib.hid (fun w => ih k (rst h k) (by omega) r1 (by omega) (by unfold I64; omega) r3 w)
      have HM := Lib.hid (fun w => l01Mod_big h k h1 (by omega) hh w)
      obtain ⟨r, hr⟩ : ∃ r, rst h k = r := ⟨_, rfl⟩
      rw [hr] at r1 r2 r4 HI HM b1
      obtain ⟨L, hL⟩ : ∃ L, ls h k = L := ⟨_, rfl⟩
      obtain ⟨L', hL'⟩ : ∃ L', ls k r = L' := ⟨_, rfl⟩
      rw [hL] at r4 b2 ⊢
      rw [hL'] at r4 HI b1
      have hne : (k == 1) = false := by simp [hk]
      have hr0 : ¬ r = 0 := by omega
      have p1 := prod_small (h := r) (i := r) (by omega) (by omega) (by omega) (by omega)
      have p2 := prod_small (h := k) (i := k) (by omega) (by omega) (by omega) (by omega)
      have p3 := prod_small (h := r) (i := k) (by omega) (by omega) (by omega) (by omega)
      have p4 := mul_bd (a := k) (d := L') (A := 20000) (D := 1200000000) (by omega) (by omega)
      have e3 : 3 * r * k = 3 * (r * k) := Int.mul_assoc _ _ _
      rw [e3] at r4
      have HQ := Lib.hid (show (r * r + k * k + 1 - 3 * (r * k) - k * L').tdiv r = L by rw [r4]; exact Int.mul_tdiv_cancel_left _ hr0)
      clear ih hc hh hk hL hL' hr r4 r3
      go_enter Try.func33, Try.ntmps33
      go_wp2_with fail
      refine (HM.out _).mono ?_
      rintro e w1 ⟨rfl, rfl⟩
      go_wp2_with fail
      refine (HI.out _).mono ?_
      rintro e w1 ⟨rfl, rfl⟩
      go_wp2
      go_ret
      exact ⟨ret_int HQ.out, rfl⟩
end Go.Proofs.Ythggpcdbnopabaa
