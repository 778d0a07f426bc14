/- ReciprocityOf: contracts of both sides, and the walk of its law. -/
import Derived.Test.YthggpcdbnopabaaDsK
import Derived.Test.YthggpcdbnopabaaLoReciprocityOf
namespace Go.Proofs.Ythggpcdbnopabaa
open Go.ChangeShapes Go.WideShapes Go.ChangeAt Go.RowKit

theorem rcp_bd {h k : Int} (h1 : 1 ≤ h) (h2 : h ≤ 20000) (k1 : 1 ≤ k) (k2 : k ≤ 20000) : (0 ≤ h * h ∧ h * h ≤ 400000000) ∧ (0 ≤ k * k ∧ k * k ≤ 400000000) ∧ (1 ≤ h * k ∧ h * k ≤ 400000000) := by
  have := Int.mul_pos (show 0 < h by omega) (show 0 < k by omega)
  have := prod_small (h := h) (i := k) (by omega) h2 (by omega) k2
  exact ⟨prod_small (by omega) h2 (by omega) h2, prod_small (by omega) k2 (by omega) k2, by omega, by omega⟩
theorem rcp_mid {h k : Int} (h1 : 1 ≤ h) (h2 : h ≤ 20000) (k1 : 1 ≤ k) (k2 : k ≤ 20000) : Mid (h * h + k * k + 1 - 3 * h * k) ∧ Mid (12 * h * k) ∧ ¬ (h * h + k * k + 1 - 3 * h * k = 0 ∧ 12 * h * k = 0) := by
  obtain ⟨_, _, _⟩ := rcp_bd h1 h2 k1 k2
  have e1 : 3 * h * k = 3 * (h * k) := Int.mul_assoc _ _ _
  have e2 : 12 * h * k = 12 * (h * k) := Int.mul_assoc _ _ _
  unfold Mid
  omega
set_option maxHeartbeats 1000000 in
theorem implRcp_range (h k : Int) (hr : ¬ (1 ≤ h ∧ h ≤ 20000 ∧ 1 ≤ k ∧ k ≤ 20000)) (w : World) :
    Calls Try.prog 9 #[(.int .i64 h), (.int .i64 k)] w fun e w' => e = .returned (.tuple #[(.agg #[.int .i64 0, .int .i64 0]), (.int .i64 2)]) ∧ Below w.heap.size w w' := by
  rcases (show h < 1 ∨ (¬ h < 1 ∧ 20000 < h) ∨ (¬ h < 1 ∧ ¬ 20000 < h ∧ k < 1) ∨ (¬ h < 1 ∧ ¬ 20000 < h ∧ ¬ k < 1 ∧ 20000 < k) by omega) with h1 | ⟨h1, h2⟩ | ⟨h1, h2, h3⟩ | ⟨h1, h2, h3, h4⟩
  all_goals
    clear hr
    go_enter Try.func9, Try.ntmps9
    go_wp2
    exact bodyPost_ret (v := .tuple #[(.agg #[.int .i64 0, .int .i64 0]), (.int .i64 2)]) (by simp [results, Try.results9, go_sem]) rfl ⟨rfl, by repeat (first | with_reducible exact own_refl _ | with_reducible assumption | with_reducible apply own_alloc | with_reducible apply own_drewN | with_reducible apply own_drew | ((with_reducible refine own_setCell ?_ ?_ _); rotate_left; focus (first | (simp; done) | (simp; omega))) | (with_reducible (refine own_trans ?_ (by assumption))))⟩
set_option maxHeartbeats 1000000 in
theorem implRcp_state (h k g : Int) (h1 : 1 ≤ h) (h2 : h ≤ 20000) (k1 : 1 ≤ k) (k2 : k ≤ 20000) (hg : (Int.gcd h k : Int) = g) (h3 : ¬ g = 1) (w : World) :
    Calls Try.prog 9 #[(.int .i64 h), (.int .i64 k)] w fun e w' => e = .returned (.tuple #[(.agg #[.int .i64 0, .int .i64 0]), (.int .i64 5)]) ∧ Below w.heap.size w w' := by
  have HG := Lib.hid (fun w => commonDivisor_is g h k hg (by unfold Mid; omega) (by unfold Mid; omega) w)
  have h4 : 1 < g := by
    have := gcd_facts (p := h) (q := k) (by omega) (by unfold Mid; omega) (by unfold Mid; omega)
    omega
  clear hg h3
  go_enter Try.func9, Try.ntmps9
  go_wp2_with fail
  refine (HG.out _).mono ?_
  rintro e w1 ⟨rfl, hb1⟩
  have Z1 : Box w1 w.heap.size [.int .i64 0, .int .i64 0] := Box.below (Box.new _ _ _) hb1
  obtain ⟨_, _, _, _, _⟩ := Z1.two
  go_wp2
  obtain ⟨_, d1, d2⟩ := Z1.reads2d (.int .i64 0) (.int .i64 0)
  exact bodyPost_ret (v := .tuple #[(.agg #[.int .i64 0, .int .i64 0]), (.int .i64 5)]) (by simp [results, Try.results9, go_sem, d1, d2]) rfl ⟨rfl, by repeat (first | with_reducible exact own_refl _ | with_reducible assumption | with_reducible apply own_alloc | with_reducible apply own_drewN | with_reducible apply own_drew | ((with_reducible refine own_setCell ?_ ?_ _); rotate_left; focus (first | (simp; done) | (simp; omega))) | (with_reducible (refine own_trans ?_ (by assumption))))⟩
set_option maxHeartbeats 1000000 in
theorem implRcp_yes (h k x y : Int) (h1 : 1 ≤ h) (h2 : h ≤ 20000) (k1 : 1 ≤ k) (k2 : k ≤ 20000) (hg : Int.gcd h k = 1) (hx : lowP (h * h + k * k + 1 - 3 * h * k) (12 * h * k) = x) (hy : lowQ (h * h + k * k + 1 - 3 * h * k) (12 * h * k) = y) (w : World) :
    Calls Try.prog 9 #[(.int .i64 h), (.int .i64 k)] w fun e w' => e = .returned (.tuple #[(.agg #[.int .i64 x, .int .i64 y]), (.int .i64 0)]) ∧ Below w.heap.size w w' := by
  have HG := Lib.hid (fun w => commonDivisor_is 1 h k (by rw [hg]; rfl) (by unfold Mid; omega) (by unfold Mid; omega) w)
  have hm := rcp_mid h1 h2 k1 k2
  have HL := Lib.hid (fun w => implLow_at _ _ x y hx hy hm.1 hm.2.1 hm.2.2 w)
  obtain ⟨⟨_, _⟩, ⟨_, _⟩, ⟨_, _⟩⟩ := rcp_bd h1 h2 k1 k2
  have e1 : 3 * h * k = 3 * (h * k) := Int.mul_assoc _ _ _
  have e2 : 12 * h * k = 12 * (h * k) := Int.mul_assoc _ _ _
  have w1 : IntKind.i64.wrap (3 * h * k) = 3 * h * k := IntWalk.i64_in _ (by omega)
  have w2 : IntKind.i64.wrap (12 * h * k) = 12 * h * k := IntWalk.i64_in _ (by omega)
  have w3 : IntKind.i64.wrap (h * h + k * k + 1 - 3 * h * k) = h * h + k * k + 1 - 3 * h * k := IntWalk.i64_in _ (by omega)
  clear hx hy hm hg e1 e2
  go_enter Try.func9, Try.ntmps9
  go_wp2_with fail
  refine (HG.out _).mono ?_
  rintro e w1 ⟨rfl, hb1⟩
  have T1 : Below w.heap.size w w1 := by repeat (first | with_reducible exact own_refl _ | with_reducible assumption | with_reducible apply own_alloc | with_reducible apply own_drewN | with_reducible apply own_drew | ((with_reducible refine own_setCell ?_ ?_ _); rotate_left; focus (first | (simp; done) | (simp; omega))) | (with_reducible (refine own_trans ?_ (by assumption))))
  have Z1 : Box w1 w.heap.size [.int .i64 0, .int .i64 0] := Box.below (Box.new _ _ _) hb1
  clear hb1
  go_wp2_with fail
  refine (HL.out _).mono ?_
  rintro e w2 ⟨rfl, hb2⟩
  have T2 := own_trans T1 hb2
  have Z2 := Z1.below hb2
  obtain ⟨_, _, _, _, _⟩ := Z2.two
  go_wp2
  obtain ⟨_, d1, d2⟩ := Z2.reads2d (.int .i64 x) (.int .i64 y)
  exact bodyPost_ret (v := .tuple #[(.agg #[.int .i64 x, .int .i64 y]), (.int .i64 0)]) (by simp [results, Try.results9, go_sem, d1, d2]) rfl ⟨rfl, by repeat (first | with_reducible exact own_refl _ | with_reducible assumption | with_reducible apply own_alloc | with_reducible apply own_drewN | with_reducible apply own_drew | ((with_reducible refine own_setCell ?_ ?_ _); rotate_left; focus (first | (simp; done) | (simp; omega))) | (with_reducible (refine own_trans ?_ (by assumption))))⟩

theorem specRcp_h (h k : Int) (h1 : inR h 1 20000 = false) (w : World) :
    Calls Try.prog 10 #[(.int .i64 h), (.int .i64 k)] w fun e w' => e = .returned (.tuple #[(.agg #[.int .i64 0, .int .i64 0]), (.int .i64 2)]) ∧ Below w.heap.size w w' := by
  have H := Lib.hid (fun w => l01In_is false h 1 20000 h1 w)
  clear h1
  go_enter Try.func10, Try.ntmps10
  go_wp2_with fail
  refine (H.out _).mono ?_
  rintro e w1 ⟨rfl, rfl⟩
  go_wp2
  exact bodyPost_ret (v := .tuple #[(.agg #[.int .i64 0, .int .i64 0]), (.int .i64 2)]) (by simp [results, Try.results10, go_sem]) rfl ⟨rfl, by repeat (first | with_reducible exact own_refl _ | with_reducible assumption | with_reducible apply own_alloc | with_reducible apply own_drewN | with_reducible apply own_drew | ((with_reducible refine own_setCell ?_ ?_ _); rotate_left; focus (first | (simp; done) | (simp; omega))) | (with_reducible (refine own_trans ?_ (by assumption))))⟩
theorem specRcp_no (h k : Int) (c : Int) (h1 : inR h 1 20000 = true) (hc0 : (c != 0) = true) (hc : ∀ w : World, Calls Try.prog 31 #[(.int .i64 h), (.int .i64 k), (.int .i64 20000)] w fun e w' => e = .returned (.int .i64 c) ∧ w = w') (w : World) :
    Calls Try.prog 10 #[(.int .i64 h), (.int .i64 k)] w fun e w' => e = .returned (.tuple #[(.agg #[.int .i64 0, .int .i64 0]), (.int .i64 c)]) ∧ Below w.heap.size w w' := by
  have H := Lib.hid (fun w => l01In_is true h 1 20000 h1 w)
  have HH := Lib.hid hc
  clear hc h1
  have hc1 : (c == 0) = false := by simpa using hc0
  go_enter Try.func10, Try.ntmps10
  go_wp2_with fail
  refine (H.out _).mono ?_
  rintro e w1 ⟨rfl, rfl⟩
  go_wp2_with fail
  refine (HH.out _).mono ?_
  rintro e w1 ⟨rfl, rfl⟩
  go_wp2
  exact bodyPost_ret (v := .tuple #[(.agg #[.int .i64 0, .int .i64 0]), (.int .i64 c)]) (by simp [results, Try.results10, go_sem]) rfl ⟨rfl, by repeat (first | with_reducible exact own_refl _ | with_reducible assumption | with_reducible apply own_alloc | with_reducible apply own_drewN | with_reducible apply own_drew | ((with_reducible refine own_setCell ?_ ?_ _); rotate_left; focus (first | (simp; done) | (simp; omega))) | (with_reducible (refine own_trans ?_ (by assumption))))⟩
set_option maxHeartbeats 1000000 in
theorem specRcp_yes (h k x y : Int) (h1 : 1 ≤ h) (h2 : h ≤ 20000) (k1 : 1 ≤ k) (k2 : k ≤ 20000) (hg : Int.gcd h k = 1) (hx : lowP (h * h + k * k + 1 - 3 * h * k) (12 * h * k) = x) (hy : lowQ (h * h + k * k + 1 - 3 * h * k) (12 * h * k) = y) (w : World) :
    Calls Try.prog 10 #[(.int .i64 h), (.int .i64 k)] w fun e w' => e = .returned (.tuple #[(.agg #[.int .i64 x, .int .i64 y]), (.int .i64 0)]) ∧ Below w.heap.size w w' := by
  have H := Lib.hid (fun w => l01In_is true h 1 20000 (decide_eq_true ⟨h1, h2⟩) w)
  have HC := Lib.hid (fun w => l07Code_ok h k 20000 (ent_iff.2 (by unfold Ent; omega)) (decide_eq_true ⟨k1, k2⟩) (by omega) hg w)
  have hm := rcp_mid h1 h2 k1 k2
  have HL := Lib.hid (fun w => specLow_at _ _ x y hx hy hm.1 hm.2.1 hm.2.2 w)
  obtain ⟨⟨_, _⟩, ⟨_, _⟩, ⟨_, _⟩⟩ := rcp_bd h1 h2 k1 k2
  have e1 : 3 * h * k = 3 * (h * k) := Int.mul_assoc _ _ _
  have e2 : 12 * h * k = 12 * (h * k) := Int.mul_assoc _ _ _
  have w1 : IntKind.i64.wrap (3 * h * k) = 3 * h * k := IntWalk.i64_in _ (by omega)
  have w2 : IntKind.i64.wrap (12 * h * k) = 12 * h * k := IntWalk.i64_in _ (by omega)
  have w3 : IntKind.i64.wrap (h * h + k * k + 1 - 3 * h * k) = h * h + k * k + 1 - 3 * h * k := IntWalk.i64_in _ (by omega)
  clear hx hy hm hg e1 e2
  go_enter Try.func10, Try.ntmps10
  go_wp2_with fail
  refine (H.out _).mono ?_
  rintro e w1 ⟨rfl, rfl⟩
  go_wp2_with fail
  refine (HC.out _).mono ?_
  rintro e w1 ⟨rfl, rfl⟩
  go_wp2_with fail
  refine (HL.out _).mono ?_
  rintro e w2 ⟨rfl, hb2⟩
  have Z2 : Box w2 w.heap.size [.int .i64 0, .int .i64 0] := Box.below (Box.new _ _ _) hb2
  obtain ⟨_, _, _, _, _⟩ := Z2.two
  go_wp2
  obtain ⟨_, d1, d2⟩ := Z2.reads2d (.int .i64 x) (.int .i64 y)
  exact bodyPost_ret (v := .tuple #[(.agg #[.int .i64 x, .int .i64 y]), (.int .i64 0)]) (by simp [results, Try.results10, go_sem, d1, d2]) rfl ⟨rfl, by repeat (first | with_reducible exact own_refl _ | with_reducible assumption | with_reducible apply own_alloc | with_reducible apply own_drewN | with_reducible apply own_drew | ((with_reducible refine own_setCell ?_ ?_ _); rotate_left; focus (first | (simp; done) | (simp; omega))) | (with_reducible (refine own_trans ?_ (by assumption))))⟩

end Go.Proofs.Ythggpcdbnopabaa
