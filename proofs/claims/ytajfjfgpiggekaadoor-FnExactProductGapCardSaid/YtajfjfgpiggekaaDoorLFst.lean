/- The walks of the laws FnExactFirstNumber and FnExactSecondNumber. -/
import Derived.Test.YtajfjfgpiggekaaDoorFsW
import Derived.Test.YtajfjfgpiggekaaDoorLoFirstNumber
import Derived.Test.YtajfjfgpiggekaaDoorLoSecondNumber
namespace Go.Proofs.YtajfjfgpiggekaaDoor
open Go.ChangeShapes Go.WideShapes Go.ChangeAt Go.RowKit

theorem firstNumber_any (a b c d : Int) (h : isM a b c d = true) (hc : (c.natAbs : Int) ≤ 20000) (w : World) :
    Calls Tryd.prog 17 #[(.agg #[.int .i64 a, .int .i64 b, .int .i64 c, .int .i64 d])] w fun e w' => e = .returned (.int .i64 (fst a b c d)) ∧ Below w.heap.size w w' := by
  by_cases hz : c = 0
  · subst hz; exact firstNumber_zero a b d h w
  · exact firstNumber_nz a b c d h hc hz w
theorem l07First_any (a b c d : Int) (h : isM a b c d = true) (hc : (c.natAbs : Int) ≤ 20000) (w : World) :
    Calls Tryd.prog 14 #[(.agg #[.int .i64 a, .int .i64 b, .int .i64 c, .int .i64 d])] w fun e w' => e = .returned (.int .i64 (fst a b c d)) ∧ Below w.heap.size w w' := by
  by_cases hz : c = 0
  · subst hz; exact l07First_zero a b d h w
  · exact l07First_nz a b c d h hc hz w
theorem l07Given_no (a b c d : Int) (h : isM a b c d = false) (w : World) :
    Calls Tryd.prog 13 #[(.agg #[.int .i64 a, .int .i64 b, .int .i64 c, .int .i64 d])] w fun e w' => e = .returned (.int .i64 1) ∧ Below w.heap.size w w' := by
  have H := Lib.hid h
  clear h
  go_enter Tryd.func13, Tryd.ntmps13
  go_wp2_with fail
  refine (l01Is_is false _ _ _ _ _ H.out).mono ?_
  rintro e w1 ⟨rfl, hb1⟩
  go_wp2
  go_ret
  exact ⟨rfl, by repeat (first | with_reducible exact own_refl _ | with_reducible assumption | with_reducible apply own_alloc | with_reducible apply own_drewN | with_reducible apply own_drew | ((with_reducible refine own_setCell ?_ ?_ _); rotate_left; focus (first | (simp; done) | (simp; omega))) | (with_reducible (refine own_trans ?_ (by assumption))))⟩
set_option maxHeartbeats 1000000 in
theorem l07Given_big (a b c d : Int) (h : isM a b c d = true) (hc : ¬ (c.natAbs : Int) ≤ 20000) (w : World) :
    Calls Tryd.prog 13 #[(.agg #[.int .i64 a, .int .i64 b, .int .i64 c, .int .i64 d])] w fun e w' => e = .returned (.int .i64 3) ∧ Below w.heap.size w w' := by
  obtain ⟨_, _, ⟨_, _⟩, _, _⟩ := isM_ent h
  have H := Lib.hid h
  have w0 : IntKind.i64.wrap (-c) = -c := IntWalk.i64_in _ (by omega)
  have hg : (c < -c ∧ 20000 < -c) ∨ (¬ c < -c ∧ 20000 < c) := by omega
  clear h hc
  go_enter Tryd.func13, Tryd.ntmps13
  go_wp2_with fail
  refine (l01Is_is true _ _ _ _ _ H.out).mono ?_
  rintro e w1 ⟨rfl, hb1⟩
  have Bw1_0 : Box w1 (w.heap.size) [.int .i64 a, .int .i64 b, .int .i64 c, .int .i64 d] := by refine Box.below ?_ hb1; repeat (first | with_reducible assumption | with_reducible exact Box.new _ _ _ | (with_reducible refine Box.newAt ?_ _ _; (simp; done)) | with_reducible apply Box.alloc | with_reducible apply Box.drewN | with_reducible apply Box.drew)
  obtain ⟨_, _, _, _, _, _, _, _, _⟩ := Bw1_0.four
  rcases hg with ⟨g1, g2⟩ | ⟨g1, g2⟩
  all_goals
    go_wp2
    go_ret
    exact ⟨rfl, by repeat (first | with_reducible exact own_refl _ | with_reducible assumption | with_reducible apply own_alloc | with_reducible apply own_drewN | with_reducible apply own_drew | ((with_reducible refine own_setCell ?_ ?_ _); rotate_left; focus (first | (simp; done) | (simp; omega))) | (with_reducible (refine own_trans ?_ (by assumption))))⟩
set_option maxHeartbeats 1000000 in
theorem l07Given_ok (a b c d : Int) (h : isM a b c d = true) (hc : (c.natAbs : Int) ≤ 20000) (w : World) :
    Calls Tryd.prog 13 #[(.agg #[.int .i64 a, .int .i64 b, .int .i64 c, .int .i64 d])] w fun e w' => e = .returned (.int .i64 0) ∧ Below w.heap.size w w' := by
  obtain ⟨_, _, ⟨_, _⟩, _, _⟩ := isM_ent h
  have H := Lib.hid h
  have w0 : IntKind.i64.wrap (-c) = -c := IntWalk.i64_in _ (by omega)
  have hg : (c < -c ∧ ¬ 20000 < -c) ∨ (¬ c < -c ∧ ¬ 20000 < c) := by omega
  clear h hc
  go_enter Tryd.func13, Tryd.ntmps13
  go_wp2_with fail
  refine (l01Is_is true _ _ _ _ _ H.out).mono ?_
  rintro e w1 ⟨rfl, hb1⟩
  have Bw1_0 : Box w1 (w.heap.size) [.int .i64 a, .int .i64 b, .int .i64 c, .int .i64 d] := by refine Box.below ?_ hb1; repeat (first | with_reducible assumption | with_reducible exact Box.new _ _ _ | (with_reducible refine Box.newAt ?_ _ _; (simp; done)) | with_reducible apply Box.alloc | with_reducible apply Box.drewN | with_reducible apply Box.drew)
  obtain ⟨_, _, _, _, _, _, _, _, _⟩ := Bw1_0.four
  rcases hg with ⟨g1, g2⟩ | ⟨g1, g2⟩
  all_goals
    go_wp2
    go_ret
    exact ⟨rfl, by repeat (first | with_reducible exact own_refl _ | with_reducible assumption | with_reducible apply own_alloc | with_reducible apply own_drewN | with_reducible apply own_drew | ((with_reducible refine own_setCell ?_ ?_ _); rotate_left; focus (first | (simp; done) | (simp; omega))) | (with_reducible (refine own_trans ?_ (by assumption))))⟩

theorem within_c {c : Int} (r : Bool) (hr : decide ((c.natAbs : Int) ≤ 20000) = r) (w : World) :
    Calls Tryd.prog 37 #[(.int .i64 c), (.int .i64 20000)] w fun e w' => e = .returned (.bool r) ∧ w = w' := by
  refine isWithin_is r c 20000 (by omega) (by omega) ?_ w
  rw [← hr]
  unfold inW
  rw [Bool.eq_iff_iff]
  simp
  omega
/-- the second number -/
def snd (a b c d : Int) : Int := fst a b c d - 3 * sgn c * sgn (a + d)
end Go.Proofs.YtajfjfgpiggekaaDoor
