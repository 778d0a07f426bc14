/- Contracts of FractionOf, and its law. -/
import Derived.Test.YthggpcdbnopabaaA
import Derived.Test.YthggpcdbnopabaaLow
import Derived.Test.YthggpcdbnopabaaF
namespace Go.Proofs.Ythggpcdbnopabaa
open Go.ChangeShapes Go.WideShapes Go.ChangeAt Go.RowKit

theorem ent_mid {x : Int} (h : Ent x) : Mid x := by unfold Ent at h; unfold Mid; omega

set_option maxHeartbeats 1000000 in
theorem implFrOf_range (p q : Int) (h : inW p 1000000000 = false ∨ (inW p 1000000000 = true ∧ inW q 1000000000 = false)) (w : World) :
    Calls Try.prog 11 #[(.int .i64 p), (.int .i64 q)] w fun e w' => e = .returned (.tuple #[(.agg #[.int .i64 0, .int .i64 0]), (.int .i64 2)]) ∧ Below w.heap.size w w' := by
  rcases h with h | ⟨h, h'⟩
  · go_enter Try.func11, Try.ntmps11
    go_wp2_with (go_at_call 28; refine (isWithin_any _ _ (by omega) (by omega) _).mono ?_; rintro e w1 ⟨rfl, rfl⟩)
    exact bodyPost_ret (v := .tuple #[(.agg #[.int .i64 0, .int .i64 0]), (.int .i64 2)]) (by simp [results, Try.results11, go_sem]) rfl ⟨rfl, by repeat (first | with_reducible exact own_refl _ | with_reducible assumption | with_reducible apply own_alloc | with_reducible apply own_drewN | with_reducible apply own_drew | ((with_reducible refine own_setCell ?_ ?_ _); rotate_left; focus (first | (simp; done) | (simp; omega))) | (with_reducible (refine own_trans ?_ (by assumption))))⟩
  · go_enter Try.func11, Try.ntmps11
    go_wp2_with (go_at_call 28; refine (isWithin_any _ _ (by omega) (by omega) _).mono ?_; rintro e w1 ⟨rfl, rfl⟩)
    exact bodyPost_ret (v := .tuple #[(.agg #[.int .i64 0, .int .i64 0]), (.int .i64 2)]) (by simp [results, Try.results11, go_sem]) rfl ⟨rfl, by repeat (first | with_reducible exact own_refl _ | with_reducible assumption | with_reducible apply own_alloc | with_reducible apply own_drewN | with_reducible apply own_drew | ((with_reducible refine own_setCell ?_ ?_ _); rotate_left; focus (first | (simp; done) | (simp; omega))) | (with_reducible (refine own_trans ?_ (by assumption))))⟩
set_option maxHeartbeats 1000000 in
theorem implFrOf_zero (w : World) :
    Calls Try.prog 11 #[(.int .i64 0), (.int .i64 0)] w fun e w' => e = .returned (.tuple #[(.agg #[.int .i64 0, .int .i64 0]), (.int .i64 5)]) ∧ Below w.heap.size w w' := by
  have h : inW 0 1000000000 = true := by decide
  go_enter Try.func11, Try.ntmps11
  go_wp2_with (go_at_call 28; refine (isWithin_any _ _ (by omega) (by omega) _).mono ?_; rintro e w1 ⟨rfl, rfl⟩)
  exact bodyPost_ret (v := .tuple #[(.agg #[.int .i64 0, .int .i64 0]), (.int .i64 5)]) (by simp [results, Try.results11, go_sem]) rfl ⟨rfl, by repeat (first | with_reducible exact own_refl _ | with_reducible assumption | with_reducible apply own_alloc | with_reducible apply own_drewN | with_reducible apply own_drew | ((with_reducible refine own_setCell ?_ ?_ _); rotate_left; focus (first | (simp; done) | (simp; omega))) | (with_reducible (refine own_trans ?_ (by assumption))))⟩
set_option maxHeartbeats 1000000 in
theorem implFrOf_yes (p q : Int) (hp : inW p 1000000000 = true) (hq : inW q 1000000000 = true) (h0 : ¬ (p = 0 ∧ q = 0)) (w : World) :
    Calls Try.prog 11 #[(.int .i64 p), (.int .i64 q)] w fun e w' => e = .returned (.tuple #[(.agg #[.int .i64 (lowP p q), .int .i64 (lowQ p q)]), (.int .i64 0)]) ∧ Below w.heap.size w w' := by
  have mp := ent_mid (ent_iff.1 hp)
  have mq := ent_mid (ent_iff.1 hq)
  have H := Lib.hid h0
  rcases (show (p == 0) = false ∨ ((p == 0) = true ∧ (q == 0) = false) by simp; omega) with e | ⟨e, e'⟩
  all_goals
    clear h0
    go_enter Try.func11, Try.ntmps11
    go_wp2_with (first | (go_at_call 28; refine (isWithin_any _ _ (by omega) (by omega) _).mono ?_; rintro e w1 ⟨rfl, rfl⟩) | (go_at_call 34; refine (implLow_any _ _ mp mq H.out _).mono ?_; rintro e w1 ⟨rfl, hb1⟩; have R1 : Box w1 w.heap.size [.int .i64 0, .int .i64 0] := Box.below (Box.new _ _ _) hb1; obtain ⟨z, d0, d1, f0, f1⟩ := R1.two))
    exact bodyPost_ret (v := .tuple #[(.agg #[.int .i64 (lowP p q), .int .i64 (lowQ p q)]), (.int .i64 0)]) (by simp [results, Try.results11, go_sem, d0, d1]) rfl ⟨rfl, by repeat (first | with_reducible exact own_refl _ | with_reducible assumption | with_reducible apply own_alloc | with_reducible apply own_drewN | with_reducible apply own_drew | ((with_reducible refine own_setCell ?_ ?_ _); rotate_left; focus (first | (simp; done) | (simp; omega))) | (with_reducible (refine own_trans ?_ (by assumption))))⟩

end Go.Proofs.Ythggpcdbnopabaa
