/- DedekindSum: contracts of both sides. -/
import Derived.Test.YthggpcdbnopabaaDsS
import Derived.Test.YthggpcdbnopabaaIsF
namespace Go.Proofs.Ythggpcdbnopabaa
open Go.ChangeShapes Go.WideShapes Go.ChangeAt Go.RowKit

set_option maxHeartbeats 1000000 in
theorem l07Code_range (h k m : Int) (hr : inW h 1000000000 = false ∨ (inW h 1000000000 = true ∧ inR k 1 m = false)) (w : World) :
    Calls Try.prog 31 #[(.int .i64 h), (.int .i64 k), (.int .i64 m)] w fun e w' => e = .returned (.int .i64 2) ∧ w = w' := by
  rcases hr with h1 | ⟨h1, h2⟩
  all_goals
    go_enter Try.func31, Try.ntmps31
    go_wp2_with (first | (go_at_call 48; refine (l01Entry_any _ _).mono ?_; rintro e w1 ⟨rfl, rfl⟩) | (go_at_call 35; refine (l01In_any _ _ _ _).mono ?_; rintro e w1 ⟨rfl, rfl⟩))
    go_ret
    exact ⟨rfl, rfl⟩
set_option maxHeartbeats 1000000 in
theorem l07Code_state (h k m g : Int) (h1 : inW h 1000000000 = true) (h2 : inR k 1 m = true) (hm : m ≤ 20000) (hg : (Int.gcd h k : Int) = g) (h3 : ¬ g = 1) (w : World) :
    Calls Try.prog 31 #[(.int .i64 h), (.int .i64 k), (.int .i64 m)] w fun e w' => e = .returned (.int .i64 5) ∧ w = w' := by
  have e1 := ent_iff.1 h1
  have e2 : 1 ≤ k ∧ k ≤ m := of_decide_eq_true h2
  have HG := Lib.hid (fun w => l01Gcd_is g h k hg (ent_mid' e1) (by unfold Mid; omega) w)
  have h4 : (g != 1) = true := by simp [h3]
  have h5 : (g == 1) = false := by simp [h3]
  clear hg h3
  go_enter Try.func31, Try.ntmps31
  go_wp2_with (first | (go_at_call 48; refine (l01Entry_any _ _).mono ?_; rintro e w1 ⟨rfl, rfl⟩) | (go_at_call 35; refine (l01In_any _ _ _ _).mono ?_; rintro e w1 ⟨rfl, rfl⟩) | (go_at_call 37; refine (HG.out _).mono ?_; rintro e w1 ⟨rfl, rfl⟩))
  go_ret
  exact ⟨rfl, rfl⟩
set_option maxHeartbeats 1000000 in
theorem l07Code_ok (h k m : Int) (h1 : inW h 1000000000 = true) (h2 : inR k 1 m = true) (hm : m ≤ 20000) (hg : Int.gcd h k = 1) (w : World) :
    Calls Try.prog 31 #[(.int .i64 h), (.int .i64 k), (.int .i64 m)] w fun e w' => e = .returned (.int .i64 0) ∧ w = w' := by
  have e1 := ent_iff.1 h1
  have e2 : 1 ≤ k ∧ k ≤ m := of_decide_eq_true h2
  have HG := Lib.hid (fun w => l01Gcd_is 1 h k (by rw [hg]; rfl) (ent_mid' e1) (by unfold Mid; omega) w)
  clear hg
  go_enter Try.func31, Try.ntmps31
  go_wp2_with (first | (go_at_call 48; refine (l01Entry_any _ _).mono ?_; rintro e w1 ⟨rfl, rfl⟩) | (go_at_call 35; refine (l01In_any _ _ _ _).mono ?_; rintro e w1 ⟨rfl, rfl⟩) | (go_at_call 37; refine (HG.out _).mono ?_; rintro e w1 ⟨rfl, rfl⟩))
  go_ret
  exact ⟨rfl, rfl⟩

theorem ls_mid {h k : Int} (h1 : 1 ≤ k) (h2 : k ≤ 20000) (hc : Int.gcd h k = 1) : Mid (ls h k) ∧ Mid (12 * k) ∧ ¬ (ls h k = 0 ∧ 12 * k = 0) := by
  have := ls_bd h1 h2 hc
  unfold Mid
  omega
theorem specDed_no (h k : Int) (c : Int) (hc0 : (c != 0) = true) (H : ∀ w : World, Calls Try.prog 31 #[(.int .i64 h), (.int .i64 k), (.int .i64 20000)] w fun e w' => e = .returned (.int .i64 c) ∧ w = w') (w : World) :
    Calls Try.prog 7 #[(.int .i64 h), (.int .i64 k)] w fun e w' => e = .returned (.tuple #[(.agg #[.int .i64 0, .int .i64 0]), (.int .i64 c)]) ∧ Below w.heap.size w w' := by
  have HH := Lib.hid H
  clear H
  have hc1 : (c == 0) = false := by simpa using hc0
  go_enter Try.func7, Try.ntmps7
  go_wp2_with fail
  refine (HH.out _).mono ?_
  rintro e w1 ⟨rfl, rfl⟩
  go_wp2
  exact bodyPost_ret (v := .tuple #[(.agg #[.int .i64 0, .int .i64 0]), (.int .i64 c)]) (by simp [results, Try.results7, go_sem]) rfl ⟨rfl, by repeat (first | with_reducible exact own_refl _ | with_reducible assumption | with_reducible apply own_alloc | with_reducible apply own_drewN | with_reducible apply own_drew | ((with_reducible refine own_setCell ?_ ?_ _); rotate_left; focus (first | (simp; done) | (simp; omega))) | (with_reducible (refine own_trans ?_ (by assumption))))⟩
theorem specDed_yes (h k x y : Int) (h1 : inW h 1000000000 = true) (h2 : inR k 1 20000 = true) (hg : Int.gcd h k = 1) (hx : lowP (ls h k) (12 * k) = x) (hy : lowQ (ls h k) (12 * k) = y) (w : World) :
    Calls Try.prog 7 #[(.int .i64 h), (.int .i64 k)] w fun e w' => e = .returned (.tuple #[(.agg #[.int .i64 x, .int .i64 y]), (.int .i64 0)]) ∧ Below w.heap.size w w' := by
  have e2 : 1 ≤ k ∧ k ≤ 20000 := of_decide_eq_true h2
  have HC := Lib.hid (fun w => l07Code_ok h k 20000 h1 h2 (by omega) hg w)
  have HS := Lib.hid (fun w => l07Sum_is k.toNat h k (by omega) e2.1 e2.2 (ent_i64 (ent_iff.1 h1)) hg w)
  have hm := ls_mid e2.1 e2.2 hg
  have HL := Lib.hid (fun w => specLow_at (ls h k) (12 * k) x y hx hy hm.1 hm.2.1 hm.2.2 w)
  clear hx hy hm h1 h2 hg
  go_enter Try.func7, Try.ntmps7
  go_wp2_with fail
  refine (HC.out _).mono ?_
  rintro e w1 ⟨rfl, rfl⟩
  go_wp2_with fail
  refine (HS.out _).mono ?_
  rintro e w1 ⟨rfl, rfl⟩
  go_wp2_with fail
  refine (HL.out _).mono ?_
  rintro e w2 ⟨rfl, hb2⟩
  have Z2 : Box w2 w.heap.size [.int .i64 0, .int .i64 0] := Box.below (Box.new _ _ _) hb2
  obtain ⟨_, _, _, _, _⟩ := Z2.two
  go_wp2
  obtain ⟨_, d1, d2⟩ := Z2.reads2d (.int .i64 x) (.int .i64 y)
  exact bodyPost_ret (v := .tuple #[(.agg #[.int .i64 x, .int .i64 y]), (.int .i64 0)]) (by simp [results, Try.results7, go_sem, d1, d2]) rfl ⟨rfl, by repeat (first | with_reducible exact own_refl _ | with_reducible assumption | with_reducible apply own_alloc | with_reducible apply own_drewN | with_reducible apply own_drew | ((with_reducible refine own_setCell ?_ ?_ _); rotate_left; focus (first | (simp; done) | (simp; omega))) | (with_reducible (refine own_trans ?_ (by assumption))))⟩

set_option maxHeartbeats 1000000 in
theorem implDed_range (h k : Int) (hr : inW h 1000000000 = false ∨ (inW h 1000000000 = true ∧ inR k 1 20000 = false)) (w : World) :
    Calls Try.prog 6 #[(.int .i64 h), (.int .i64 k)] w fun e w' => e = .returned (.tuple #[(.agg #[.int .i64 0, .int .i64 0]), (.int .i64 2)]) ∧ Below w.heap.size w w' := by
  rcases (show inW h 1000000000 = false ∨ (inW h 1000000000 = true ∧ k < 1) ∨ (inW h 1000000000 = true ∧ 1 ≤ k ∧ 20000 < k) by
    rcases hr with h1 | ⟨h1, h2⟩
    · exact .inl h1
    · have : ¬ (1 ≤ k ∧ k ≤ 20000) := of_decide_eq_false h2
      by_cases h3 : k < 1
      · exact .inr (.inl ⟨h1, h3⟩)
      · exact .inr (.inr ⟨h1, by omega, by omega⟩)) with h1 | ⟨h1, h2⟩ | ⟨h1, h2, h3⟩
  all_goals
    clear hr
    go_enter Try.func6, Try.ntmps6
    go_wp2_with (go_at_call 28; refine (isWithin_any _ _ (by omega) (by omega) _).mono ?_; rintro e w1 ⟨rfl, rfl⟩)
    exact bodyPost_ret (v := .tuple #[(.agg #[.int .i64 0, .int .i64 0]), (.int .i64 2)]) (by simp [results, Try.results6, go_sem]) rfl ⟨rfl, by repeat (first | with_reducible exact own_refl _ | with_reducible assumption | with_reducible apply own_alloc | with_reducible apply own_drewN | with_reducible apply own_drew | ((with_reducible refine own_setCell ?_ ?_ _); rotate_left; focus (first | (simp; done) | (simp; omega))) | (with_reducible (refine own_trans ?_ (by assumption))))⟩
set_option maxHeartbeats 1000000 in
theorem implDed_state (h k g : Int) (h1 : inW h 1000000000 = true) (h2 : inR k 1 20000 = true) (hg : (Int.gcd h k : Int) = g) (h3 : ¬ g = 1) (w : World) :
    Calls Try.prog 6 #[(.int .i64 h), (.int .i64 k)] w fun e w' => e = .returned (.tuple #[(.agg #[.int .i64 0, .int .i64 0]), (.int .i64 5)]) ∧ Below w.heap.size w w' := by
  have e1 := ent_iff.1 h1
  have e2 : 1 ≤ k ∧ k ≤ 20000 := of_decide_eq_true h2
  have HG := Lib.hid (fun w => commonDivisor_is g h k hg (ent_mid' e1) (by unfold Mid; omega) w)
  have h4 : 1 < g := by
    have := gcd_facts (p := h) (q := k) (by omega) (ent_mid' e1) (by unfold Mid; omega)
    omega
  clear hg h3 h2
  obtain ⟨_, _⟩ := e2
  go_enter Try.func6, Try.ntmps6
  go_wp2_with (first | (go_at_call 28; refine (isWithin_any _ _ (by omega) (by omega) _).mono ?_; rintro e w1 ⟨rfl, rfl⟩))
  refine (HG.out _).mono ?_
  rintro e w1 ⟨rfl, hb1⟩
  have Z1 : Box w1 w.heap.size [.int .i64 0, .int .i64 0] := Box.below (Box.new _ _ _) hb1
  obtain ⟨_, _, _, _, _⟩ := Z1.two
  go_wp2
  obtain ⟨_, d1, d2⟩ := Z1.reads2d (.int .i64 0) (.int .i64 0)
  exact bodyPost_ret (v := .tuple #[(.agg #[.int .i64 0, .int .i64 0]), (.int .i64 5)]) (by simp [results, Try.results6, go_sem, d1, d2]) rfl ⟨rfl, by repeat (first | with_reducible exact own_refl _ | with_reducible assumption | with_reducible apply own_alloc | with_reducible apply own_drewN | with_reducible apply own_drew | ((with_reducible refine own_setCell ?_ ?_ _); rotate_left; focus (first | (simp; done) | (simp; omega))) | (with_reducible (refine own_trans ?_ (by assumption))))⟩
set_option maxHeartbeats 1000000 in
theorem implDed_yes (h k x y : Int) (h1 : inW h 1000000000 = true) (h2 : inR k 1 20000 = true) (hg : Int.gcd h k = 1) (hx : lowP (ls h k) (12 * k) = x) (hy : lowQ (ls h k) (12 * k) = y) (w : World) :
    Calls Try.prog 6 #[(.int .i64 h), (.int .i64 k)] w fun e w' => e = .returned (.tuple #[(.agg #[.int .i64 x, .int .i64 y]), (.int .i64 0)]) ∧ Below w.heap.size w w' := by
  have e1 := ent_iff.1 h1
  have e2 : 1 ≤ k ∧ k ≤ 20000 := of_decide_eq_true h2
  have HG := Lib.hid (fun w => commonDivisor_is 1 h k (by rw [hg]; rfl) (ent_mid' e1) (by unfold Mid; omega) w)
  have HD := Lib.hid (fun w => dedekindSum_is h k x y e2.1 e2.2 (ent_i64 e1) hg hx hy w)
  clear hg h2 hx hy
  obtain ⟨_, _⟩ := e2
  go_enter Try.func6, Try.ntmps6
  go_wp2_with (first | (go_at_call 28; refine (isWithin_any _ _ (by omega) (by omega) _).mono ?_; rintro e w1 ⟨rfl, rfl⟩))
  refine (HG.out _).mono ?_
  rintro e w1 ⟨rfl, hb1⟩
  have T1 : Below w.heap.size w w1 := by repeat (first | with_reducible exact own_refl _ | with_reducible assumption | with_reducible apply own_alloc | with_reducible apply own_drewN | with_reducible apply own_drew | ((with_reducible refine own_setCell ?_ ?_ _); rotate_left; focus (first | (simp; done) | (simp; omega))) | (with_reducible (refine own_trans ?_ (by assumption))))
  have Z1 : Box w1 w.heap.size [.int .i64 0, .int .i64 0] := Box.below (Box.new _ _ _) hb1
  clear hb1
  go_wp2_with fail
  refine (HD.out _).mono ?_
  rintro e w2 ⟨rfl, hb2⟩
  have T2 := own_trans T1 hb2
  have Z2 := Z1.below hb2
  obtain ⟨_, _, _, _, _⟩ := Z2.two
  go_wp2
  obtain ⟨_, d1, d2⟩ := Z2.reads2d (.int .i64 x) (.int .i64 y)
  exact bodyPost_ret (v := .tuple #[(.agg #[.int .i64 x, .int .i64 y]), (.int .i64 0)]) (by simp [results, Try.results6, go_sem, d1, d2]) rfl ⟨rfl, by repeat (first | with_reducible exact own_refl _ | with_reducible assumption | with_reducible apply own_alloc | with_reducible apply own_drewN | with_reducible apply own_drew | ((with_reducible refine own_setCell ?_ ?_ _); rotate_left; focus (first | (simp; done) | (simp; omega))) | (with_reducible (refine own_trans ?_ (by assumption))))⟩
end Go.Proofs.Ythggpcdbnopabaa
