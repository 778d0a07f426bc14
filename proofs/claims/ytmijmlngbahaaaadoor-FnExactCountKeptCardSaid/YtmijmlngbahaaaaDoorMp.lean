/- Coset matrices of normal pairs: the program's matrixOfPair and the model's l06Matrix. -/
import Derived.Test.YtmijmlngbahaaaaDoorLnM
import Derived.Test.YtmijmlngbahaaaaDoorIdn
namespace Go.Proofs.YtmijmlngbahaaaaDoor
open Go.ChangeShapes Go.WideShapes Go.ChangeAt Go.RowKit

def anyA (c d : Nat) : Nat → Bool
  | 0 => false
  | k + 1 => Nat.beq (k * d % c) (1 % c) || anyA c d k
def allD (c : Nat) : Nat → Bool
  | 0 => true
  | d + 1 => (!(Nat.beq (Nat.gcd c d) 1) || anyA c d c) && allD c d
def allCs : Nat → Bool
  | 0 => true
  | c + 1 => allD (c + 1) 60 && allCs c
set_option maxRecDepth 100000 in
theorem all_inv : allCs 59 = true := by decide +kernel
theorem allCs_at : ∀ (m : Nat), allCs m = true → ∀ c, c < m → allD (c + 1) 60 = true
  | 0, _, c, h => by omega
  | m + 1, h, c, hc => by
    rw [allCs, Bool.and_eq_true] at h
    by_cases e : c = m
    · rw [e]; exact h.1
    · exact allCs_at m h.2 c (by omega)
theorem allD_at (c : Nat) : ∀ (m : Nat), allD c m = true → ∀ d, d < m → Nat.gcd c d = 1 → anyA c d c = true
  | 0, _, d, h, _ => by omega
  | m + 1, h, d, hd, hg => by
    rw [allD, Bool.and_eq_true] at h
    by_cases e : d = m
    · subst e
      have := h.1
      rw [hg] at this
      simpa using this
    · exact allD_at c m h.2 d (by omega) hg
theorem anyA_at (c d : Nat) : ∀ k : Nat, anyA c d k = true → ∃ a, a < k ∧ a * d % c = 1 % c
  | 0, h => by simp [anyA] at h
  | k + 1, h => by
    rw [anyA, Bool.or_eq_true] at h
    rcases h with h | h
    · exact ⟨k, by omega, Nat.eq_of_beq_eq_true h⟩
    · obtain ⟨a, h1, h2⟩ := anyA_at c d k h
      exact ⟨a, by omega, h2⟩
theorem least_at {P : Nat → Prop} : ∀ a : Nat, P a → ∃ m, m ≤ a ∧ P m ∧ ∀ b, b < m → ¬ P b := by
  intro a
  induction a using Nat.strongRecOn with
  | _ a ih =>
    intro h
    by_cases hb : ∃ b, b < a ∧ P b
    · obtain ⟨b, h1, h2⟩ := hb
      obtain ⟨m, h3, h4, h5⟩ := ih b h1 h2
      exact ⟨m, by omega, h4, h5⟩
    · exact ⟨a, Nat.le_refl _, h, fun b h1 h2 => hb ⟨b, h1, h2⟩⟩
theorem tmod_zero_iff {x c : Int} : x.tmod c = 0 ↔ c ∣ x := Int.dvd_iff_tmod_eq_zero.symm
/-- The least a with which a d has the rest 1 by c. -/
theorem inv_least {c d : Int} (c1 : 1 ≤ c) (c2 : c < 60) (d0 : 0 ≤ d) (d1 : d < 60) (hg : Int.gcd c d = 1) :
    ∃ a : Nat, (a : Int) < c ∧ ((a : Int) * d - 1).tmod c = 0 ∧ ∀ b : Nat, b < a → ¬ ((b : Int) * d - 1).tmod c = 0 := by
  obtain ⟨C, rfl⟩ : ∃ C : Nat, c = (C : Int) := ⟨c.toNat, by omega⟩
  obtain ⟨D, rfl⟩ : ∃ D : Nat, d = (D : Int) := ⟨d.toNat, by omega⟩
  have hA := allD_at C 60 (by have := allCs_at 59 all_inv (C - 1) (by omega); rwa [show C - 1 + 1 = C by omega] at this) D (by omega) (by simpa using hg)
  obtain ⟨a, h1, h2⟩ := anyA_at C D C hA
  have h3 : ((a : Int) * D - 1).tmod C = 0 := by
    rw [tmod_zero_iff]
    apply Int.dvd_of_emod_eq_zero
    rw [← Int.emod_emod_of_dvd _ (Int.dvd_refl (C : Int)), Int.sub_emod]
    have : ((a : Int) * D) % C = 1 % C := by
      have := congrArg (fun n : Nat => (n : Int)) h2
      simpa using this
    rw [this]
    simp
  obtain ⟨m, h4, h5, h6⟩ := least_at (P := fun a : Nat => ((a : Int) * D - 1).tmod C = 0) a h3
  exact ⟨m, by omega, h5, h6⟩
/-- Normal pairs have a first number without a common divisor with the second one. -/
theorem pair_gcd {n c d : Int} (h1 : 1 ≤ n) (h2 : n ≤ 60) (c1 : 0 < c) (c2 : c < n) (h : okP n c d = true) : Int.gcd c d = 1 := by
  have hdv : n % c = 0 := by
    apply Classical.byContradiction
    intro h'
    rw [okP_skip h1 h2 c1 c2 h' d] at h
    cases h
  unfold okP at h
  rw [Bool.and_eq_true] at h
  have hp := of_decide_eq_true h.1
  have h3 : (Int.gcd c d : Int) ∣ n := Int.dvd_trans (Int.gcd_dvd_left c d) (Int.dvd_of_emod_eq_zero hdv)
  have h4 : Int.gcd (Int.gcd c d : Int) n = Int.gcd c d := by
    have := Int.gcd_eq_left (show 0 ≤ ((Int.gcd c d : Nat) : Int) by omega) h3
    omega
  rw [← h4]
  exact hp

theorem small_mul {k : Nat} {c d : Int} (hk : (k : Int) < c) (c2 : c < 60) (d0 : 0 ≤ d) (d1 : d < 60) : 0 ≤ (k : Int) * d ∧ (k : Int) * d ≤ 3600 := mul60 ⟨by omega, by omega⟩ ⟨d0, by omega⟩
theorem tdiv_small {x c : Int} (_ : 1 ≤ c) (h : -1 ≤ x ∧ x ≤ 3600) : -3600 ≤ x.tdiv c ∧ x.tdiv c ≤ 3600 := by
  have h1 : (x.tdiv c).natAbs = x.natAbs / c.natAbs := Int.natAbs_tdiv x c
  have h2 : x.natAbs / c.natAbs ≤ x.natAbs := Nat.div_le_self _ _
  omega
set_option maxHeartbeats 1000000 in
theorem matrixOfPair_zero (d : Int) (w : World) (hid : Idn w) :
    Calls Tryd.prog 24 #[.agg #[(.int .i64 0), (.int .i64 d)]] w fun e w' => e = .returned (.agg #[.int .i64 1, .int .i64 0, .int .i64 0, .int .i64 1]) ∧ Below w.heap.size w w' := by
  obtain ⟨_, i0, i1, i2, i3⟩ := (Rd.below hid (own_alloc (own_alloc (own_refl w) (.cells #[(.int .i64 0), (.int .i64 d)] 46)) (.cells #[(.int .i64 0), (.int .i64 0), (.int .i64 0), (.int .i64 0)] 23))).four
  go_enter Tryd.func24, Tryd.ntmps24
  go_wp2
  exact bodyPost_ret (v := (.agg #[.int .i64 1, .int .i64 0, .int .i64 0, .int .i64 1])) (by simp [results, Tryd.results24, go_sem]) rfl ⟨rfl, by repeat (first | with_reducible exact own_refl _ | with_reducible assumption | with_reducible apply own_alloc | with_reducible apply own_drewN | with_reducible apply own_drew | ((with_reducible refine own_setCell ?_ ?_ _); rotate_left; focus (first | (simp; done) | (simp; omega))) | (with_reducible (refine own_trans ?_ (by assumption))))⟩
set_option maxHeartbeats 2000000 in
theorem matrixOfPair_any (c d : Int) (c1 : 1 ≤ c) (c2 : c < 60) (d0 : 0 ≤ d) (d1 : d < 60) (a : Nat) (ha : (a : Int) < c) (h0 : ((a : Int) * d - 1).tmod c = 0) (hm : ∀ b : Nat, b < a → ¬ ((b : Int) * d - 1).tmod c = 0) (z : Int) (hz : ((a : Int) * d - 1).tdiv c = z) (w : World) :
    Calls Tryd.prog 24 #[.agg #[(.int .i64 c), (.int .i64 d)]] w fun e w' => e = .returned (.agg #[.int .i64 ((a : Int)), .int .i64 z, .int .i64 c, .int .i64 d]) ∧ Below w.heap.size w w' := by
  have HMn := Lib.hid hm
  have hc0 : (c == 0) = false := by simp; omega
  have hcn : ¬ c = 0 := by omega
  clear hm
  go_enter Tryd.func24, Tryd.ntmps24
  go_wp2
  have B1 : Box ((w.alloc (.cells #[(.int .i64 c), (.int .i64 d)] 46)).alloc (.cells #[(.int .i64 0), (.int .i64 0), (.int .i64 0), (.int .i64 0)] 23)) w.heap.size [(.int .i64 c), (.int .i64 d)] := Box.alloc (Box.new _ _ _) _
  have B2 : Box ((w.alloc (.cells #[(.int .i64 c), (.int .i64 d)] 46)).alloc (.cells #[(.int .i64 0), (.int .i64 0), (.int .i64 0), (.int .i64 0)] 23)) (w.heap.size + 1) [(.int .i64 0), (.int .i64 0), (.int .i64 0), (.int .i64 0)] := Box.newAt (by simp) _ _
  have T : Below w.heap.size w ((w.alloc (.cells #[(.int .i64 c), (.int .i64 d)] 46)).alloc (.cells #[(.int .i64 0), (.int .i64 0), (.int .i64 0), (.int .i64 0)] 23)) := own_alloc (own_alloc (own_refl _) _) _
  generalize (w.alloc (.cells #[(.int .i64 c), (.int .i64 d)] 46)).alloc (.cells #[(.int .i64 0), (.int .i64 0), (.int .i64 0), (.int .i64 0)] 23) = W at *
  obtain ⟨_, _, _, _, _⟩ := B1.two
  go_loop [3] (fun i => ∃ k : Nat, k ≤ a ∧ i = (.int .i64 ((k : Int)))) (fun i => a - (intOf i).toNat)
  case atStart => exact ⟨0, Nat.zero_le _, rfl⟩
  case round =>
    obtain ⟨k, hk, rfl⟩ := hrel
    have hs := small_mul (k := k) (by omega) c2 d0 d1
    obtain ⟨_, _⟩ := hs
    obtain ⟨_, _⟩ := rem_bd (x := (k : Int) * d - 1) c1
    by_cases hlt : k < a
    · have hne : (((k : Int) * d - 1).tmod c != 0) = true := by simpa using HMn.out k hlt
      go_wp2
      go_round
      case rel => exact ⟨k + 1, by omega, by go_num⟩
      case measure => simp [intOf]; omega
    · obtain rfl : k = a := by omega
      have hne : (((k : Int) * d - 1).tmod c != 0) = false := by simp [h0]
      have hzb := tdiv_small (x := (k : Int) * d - 1) c1 (by omega)
      rw [hz] at hzb
      have hw1 : IntKind.i64.wrap ((k : Int) * d) = (k : Int) * d := IntWalk.i64_in _ (by omega)
      have hw2 : IntKind.i64.wrap ((k : Int) * d - 1) = (k : Int) * d - 1 := IntWalk.i64_in _ (by omega)
      have hw3 : IntKind.i64.wrap z = z := IntWalk.i64_in _ (by omega)
      obtain ⟨_, _, _, _, _, _, _, _, _⟩ := B2.four
      go_wp2_with fail
      go_region_held3 (fun w' => w'.cell? ⟨w.heap.size, 0, none⟩ = some (.int .i64 c) ∧ w'.cell? ⟨w.heap.size, 1, none⟩ = some (.int .i64 d)) (go_keep) (fail)
      go_wp2
      obtain ⟨_, e0, e1, e2, e3, _, _, _, _⟩ := (Box.drew (B2.put4 (.int .i64 ((k : Int))) (.int .i64 z) (.int .i64 c) (.int .i64 d))).four
      exact bodyPost_ret (v := (.agg #[.int .i64 ((k : Int)), .int .i64 z, .int .i64 c, .int .i64 d])) (by simp [results, Tryd.results24, go_sem, e0, e1, e2, e3]) rfl ⟨rfl, by repeat (first | with_reducible exact own_refl _ | with_reducible assumption | with_reducible apply own_alloc | with_reducible apply own_drewN | with_reducible apply own_drew | ((with_reducible refine own_setCell ?_ ?_ _); rotate_left; focus (first | (simp; done) | (simp; omega))) | (with_reducible (refine own_trans ?_ (by assumption))))⟩

set_option maxHeartbeats 1000000 in
theorem l06Matrix_zero (n d : Int) (w : World) :
    Calls Tryd.prog 19 #[(.int .i64 n), (.int .i64 0), (.int .i64 d)] w fun e w' => e = .returned (.agg #[.int .i64 1, .int .i64 0, .int .i64 0, .int .i64 1]) ∧ Below w.heap.size w w' := by
  go_enter Tryd.func19, Tryd.ntmps19
  go_wp2
  exact bodyPost_ret (v := (.agg #[.int .i64 1, .int .i64 0, .int .i64 0, .int .i64 1])) (by simp [results, Tryd.results19, go_sem]) rfl ⟨rfl, by repeat (first | with_reducible exact own_refl _ | with_reducible assumption | with_reducible apply own_alloc | with_reducible apply own_drewN | with_reducible apply own_drew | ((with_reducible refine own_setCell ?_ ?_ _); rotate_left; focus (first | (simp; done) | (simp; omega))) | (with_reducible (refine own_trans ?_ (by assumption))))⟩
set_option maxHeartbeats 2000000 in
theorem l06Matrix_any (n c d : Int) (c1 : 1 ≤ c) (c2 : c < 60) (d0 : 0 ≤ d) (d1 : d < 60) (hg : Int.gcd c d = 1) (a : Nat) (ha : (a : Int) < c) (h0 : ((a : Int) * d - 1).tmod c = 0) (hm : ∀ b : Nat, b < a → ¬ ((b : Int) * d - 1).tmod c = 0) (z : Int) (hz : ((a : Int) * d - 1).tdiv c = z) (w : World) :
    Calls Tryd.prog 19 #[(.int .i64 n), (.int .i64 c), (.int .i64 d)] w fun e w' => e = .returned (.agg #[.int .i64 ((a : Int)), .int .i64 z, .int .i64 c, .int .i64 d]) ∧ Below w.heap.size w w' := by
  have HMn := Lib.hid hm
  have hc0 : (c == 0) = false := by simp; omega
  have HG := Lib.hid (fun w => l01Gcd_is 1 c d (by rw [hg]; rfl) (by unfold Mid; omega) (by unfold Mid; omega) w)
  clear hm hg
  go_enter Tryd.func19, Tryd.ntmps19
  go_wp2
  refine wp_loop_rounds 1 ?_
  rw [rounds_succ]
  go_wp2_with fail
  refine (HG.out _).mono ?_
  rintro e w1 ⟨rfl, rfl⟩
  go_wp2
  have B2 : Box (w.alloc (.cells #[(.int .i64 0), (.int .i64 0), (.int .i64 0), (.int .i64 0)] 23)) w.heap.size [(.int .i64 0), (.int .i64 0), (.int .i64 0), (.int .i64 0)] := Box.new _ _ _
  have T : Below w.heap.size w (w.alloc (.cells #[(.int .i64 0), (.int .i64 0), (.int .i64 0), (.int .i64 0)] 23)) := own_alloc (own_refl _) _
  generalize w.alloc (.cells #[(.int .i64 0), (.int .i64 0), (.int .i64 0), (.int .i64 0)] 23) = W at *
  obtain ⟨_, _, _, _, _, _, _, _, _⟩ := B2.four
  go_loop [7] (fun i => ∃ k : Nat, k ≤ a ∧ i = (.int .i64 ((k : Int)))) (fun i => a + 1 - (intOf i).toNat)
  case atStart => exact ⟨0, Nat.zero_le _, rfl⟩
  case round =>
    obtain ⟨k, hk, rfl⟩ := hrel
    have hs := small_mul (k := k) (by omega) c2 d0 d1
    obtain ⟨_, _⟩ := hs
    obtain ⟨_, _⟩ := rem_bd (x := (k : Int) * d - 1) c1
    have hkc : (k : Int) < c := by omega
    by_cases hlt : k < a
    · have hne : (((k : Int) * d - 1).tmod c == 0) = false := by simpa using HMn.out k hlt
      go_wp2
      go_round
      case rel => exact ⟨k + 1, by omega, by go_num⟩
      case measure => simp [intOf]; omega
    · obtain rfl : k = a := by omega
      have hne : (((k : Int) * d - 1).tmod c == 0) = true := by simp [h0]
      have hzb := tdiv_small (x := (k : Int) * d - 1) c1 (by omega)
      rw [hz] at hzb
      obtain ⟨_, _⟩ := hzb
      go_wp2
      obtain ⟨_, e0, e1, e2, e3, _, _, _, _⟩ := (B2.put4 (.int .i64 ((k : Int))) (.int .i64 z) (.int .i64 c) (.int .i64 d)).four
      exact bodyPost_ret (v := (.agg #[.int .i64 ((k : Int)), .int .i64 z, .int .i64 c, .int .i64 d])) (by simp [results, Tryd.results19, go_sem, e0, e1, e2, e3]) rfl ⟨rfl, by repeat (first | with_reducible exact own_refl _ | with_reducible assumption | with_reducible apply own_alloc | with_reducible apply own_drewN | with_reducible apply own_drew | ((with_reducible refine own_setCell ?_ ?_ _); rotate_left; focus (first | (simp; done) | (simp; omega))) | (with_reducible (refine own_trans ?_ (by assumption))))⟩
end Go.Proofs.YtmijmlngbahaaaaDoor
