/- The walk of the law FnExactRunsOf. -/
import Derived.Test.YtpglcpolbhlekaaDoorLoRunsOf
import Derived.Test.YtpglcpolbhlekaaDoorRunI
import Derived.Test.YtpglcpolbhlekaaDoorRunS
import Derived.Test.YtpglcpolbhlekaaDoorPos
namespace Go.Proofs.YtpglcpolbhlekaaDoor
open Go.ChangeShapes Go.WideShapes Go.ChangeAt Go.RowKit

theorem pos_of {a b c d : Int} (h : isM a b c d = true) (hp : posB a b c d = true) : Pos a b c d := by
  obtain ⟨ha, hb, hc, hd, e⟩ := isM_ent h
  have := of_decide_eq_true hp
  unfold Ent at *
  exact ⟨by omega, by omega, by omega, by omega, by omega, by omega, by omega, by omega, e⟩

theorem implRunsOf_no (a b c d : Int) (h : isM a b c d = false) (w : World) :
    Calls Tryd.prog 37 #[(.agg #[.int .i64 a, .int .i64 b, .int .i64 c, .int .i64 d])] w (RetS [] 1 w) := by
  have H := Lib.hid h
  clear h
  go_enter Tryd.func37, Tryd.ntmps37
  go_wp2_with fail
  refine (implIs_is false _ _ _ _ _ H.out).mono ?_
  rintro e w1 ⟨rfl, hb1⟩
  go_wp2
  go_ret2
  exact ⟨_, rfl, Sl.nil _ _ _ (Nat.le_refl _), by repeat (first | with_reducible exact own_refl _ | with_reducible assumption | with_reducible apply own_alloc | with_reducible apply own_drewN | with_reducible apply own_drew | ((with_reducible refine own_setCell ?_ ?_ _); rotate_left; focus (first | (simp; done) | (simp; omega))) | (with_reducible (refine own_trans ?_ (by assumption))))⟩
theorem implRunsOf_state (a b c d : Int) (h : isM a b c d = true) (hp : posB a b c d = false) (w : World) :
    Calls Tryd.prog 37 #[(.agg #[.int .i64 a, .int .i64 b, .int .i64 c, .int .i64 d])] w (RetS [] 5 w) := by
  have H := Lib.hid h
  have HP := Lib.hid hp
  clear h hp
  go_enter Tryd.func37, Tryd.ntmps37
  go_wp2_with fail
  refine (implIs_is true _ _ _ _ _ H.out).mono ?_
  rintro e w1 ⟨rfl, hb1⟩
  have Bw1_0 : Box w1 (w.heap.size) [.int .i64 a, .int .i64 b, .int .i64 c, .int .i64 d] := by refine Box.below ?_ hb1; repeat (first | with_reducible assumption | with_reducible exact Box.new _ _ _ | (with_reducible refine Box.newAt ?_ _ _; (simp; done)) | with_reducible apply Box.alloc | with_reducible apply Box.drewN | with_reducible apply Box.drew)
  obtain ⟨_, _, _, _, _, _, _, _, _⟩ := Bw1_0.four
  go_wp2_with fail
  refine (implPos_is false _ _ _ _ _ HP.out).mono ?_
  rintro e w2 ⟨rfl, hb2⟩
  go_wp2
  go_ret2
  exact ⟨_, rfl, Sl.nil _ _ _ (Nat.le_refl _), by repeat (first | with_reducible exact own_refl _ | with_reducible assumption | with_reducible apply own_alloc | with_reducible apply own_drewN | with_reducible apply own_drew | ((with_reducible refine own_setCell ?_ ?_ _); rotate_left; focus (first | (simp; done) | (simp; omega))) | (with_reducible (refine own_trans ?_ (by assumption))))⟩
theorem implRunsOf_yes (a b c d : Int) (h : isM a b c d = true) (hp : posB a b c d = true) (w : World) (hid : Idn w) :
    Calls Tryd.prog 37 #[(.agg #[.int .i64 a, .int .i64 b, .int .i64 c, .int .i64 d])] w (RetS (runsF (msr a b c d) a b c d) 0 w) := by
  have H := Lib.hid h
  have HP := Lib.hid hp
  have HQ := Lib.hid (pos_of h hp)
  clear h hp
  go_enter Tryd.func37, Tryd.ntmps37
  go_wp2_with fail
  refine (implIs_is true _ _ _ _ _ H.out).mono ?_
  rintro e w1 ⟨rfl, hb1⟩
  have Bw1_0 : Box w1 (w.heap.size) [.int .i64 a, .int .i64 b, .int .i64 c, .int .i64 d] := by refine Box.below ?_ hb1; repeat (first | with_reducible assumption | with_reducible exact Box.new _ _ _ | (with_reducible refine Box.newAt ?_ _ _; (simp; done)) | with_reducible apply Box.alloc | with_reducible apply Box.drewN | with_reducible apply Box.drew)
  obtain ⟨_, _, _, _, _, _, _, _, _⟩ := Bw1_0.four
  go_wp2_with fail
  refine (implPos_is true _ _ _ _ _ HP.out).mono ?_
  rintro e w2 ⟨rfl, hb2⟩
  have Bw2_0 : Box w2 (w.heap.size) [.int .i64 a, .int .i64 b, .int .i64 c, .int .i64 d] := by refine Box.below ?_ hb2; repeat (first | with_reducible assumption | with_reducible exact Box.new _ _ _ | (with_reducible refine Box.newAt ?_ _ _; (simp; done)) | with_reducible apply Box.alloc | with_reducible apply Box.drewN | with_reducible apply Box.drew)
  obtain ⟨_, _, _, _, _, _, _, _, _⟩ := Bw2_0.four
  have T2 : Below w.heap.size w w2 := by repeat (first | with_reducible exact own_refl _ | with_reducible assumption | with_reducible apply own_alloc | with_reducible apply own_drewN | with_reducible apply own_drew | ((with_reducible refine own_setCell ?_ ?_ _); rotate_left; focus (first | (simp; done) | (simp; omega))) | (with_reducible (refine own_trans ?_ (by assumption))))
  have X2 : Idn w2 := Rd.below hid T2
  go_wp2_with fail
  refine (implRuns_any (msr a b c d) a b c d HQ.out (Nat.le_refl _) (by have := (pos_msr HQ.out).1; omega) _ X2).mono ?_
  rintro e w3 ⟨v, rfl, hG, hb3⟩
  obtain ⟨ad, cap, hv⟩ := hG.shape
  subst hv
  go_wp2
  go_ret2
  exact ⟨_, rfl, hG.sl.weak (by have := T2.size; omega), own_trans T2 hb3⟩

theorem l02Given_is (k : Int) (a b c d : Int) (hk : (isM a b c d = false ∧ k = 1) ∨ (isM a b c d = true ∧ posB a b c d = false ∧ k = 5) ∨ (isM a b c d = true ∧ posB a b c d = true ∧ k = 0)) (w : World) :
    Calls Tryd.prog 35 #[(.agg #[.int .i64 a, .int .i64 b, .int .i64 c, .int .i64 d])] w fun e w' => e = .returned (.int .i64 k) ∧ Below w.heap.size w w' := by
  rcases hk with ⟨h, rfl⟩ | ⟨h, hp, rfl⟩ | ⟨h, hp, rfl⟩
  · have H := Lib.hid h
    clear h
    go_enter Tryd.func35, Tryd.ntmps35
    go_wp2_with fail
    refine (l01Is_is false _ _ _ _ _ H.out).mono ?_
    rintro e w1 ⟨rfl, hb1⟩
    go_wp2
    go_ret
    exact ⟨rfl, by repeat (first | with_reducible exact own_refl _ | with_reducible assumption | with_reducible apply own_alloc | with_reducible apply own_drewN | with_reducible apply own_drew | ((with_reducible refine own_setCell ?_ ?_ _); rotate_left; focus (first | (simp; done) | (simp; omega))) | (with_reducible (refine own_trans ?_ (by assumption))))⟩
  · have H := Lib.hid h
    have HP := Lib.hid hp
    clear h hp
    go_enter Tryd.func35, Tryd.ntmps35
    go_wp2_with fail
    refine (l01Is_is true _ _ _ _ _ H.out).mono ?_
    rintro e w1 ⟨rfl, hb1⟩
    have Bw1_0 : Box w1 (w.heap.size) [.int .i64 a, .int .i64 b, .int .i64 c, .int .i64 d] := by refine Box.below ?_ hb1; repeat (first | with_reducible assumption | with_reducible exact Box.new _ _ _ | (with_reducible refine Box.newAt ?_ _ _; (simp; done)) | with_reducible apply Box.alloc | with_reducible apply Box.drewN | with_reducible apply Box.drew)
    obtain ⟨_, _, _, _, _, _, _, _, _⟩ := Bw1_0.four
    go_wp2_with fail
    refine (specPos_is false _ _ _ _ _ HP.out).mono ?_
    rintro e w2 ⟨rfl, hb2⟩
    go_wp2
    go_ret
    exact ⟨rfl, by repeat (first | with_reducible exact own_refl _ | with_reducible assumption | with_reducible apply own_alloc | with_reducible apply own_drewN | with_reducible apply own_drew | ((with_reducible refine own_setCell ?_ ?_ _); rotate_left; focus (first | (simp; done) | (simp; omega))) | (with_reducible (refine own_trans ?_ (by assumption))))⟩
  · have H := Lib.hid h
    have HP := Lib.hid hp
    clear h hp
    go_enter Tryd.func35, Tryd.ntmps35
    go_wp2_with fail
    refine (l01Is_is true _ _ _ _ _ H.out).mono ?_
    rintro e w1 ⟨rfl, hb1⟩
    have Bw1_0 : Box w1 (w.heap.size) [.int .i64 a, .int .i64 b, .int .i64 c, .int .i64 d] := by refine Box.below ?_ hb1; repeat (first | with_reducible assumption | with_reducible exact Box.new _ _ _ | (with_reducible refine Box.newAt ?_ _ _; (simp; done)) | with_reducible apply Box.alloc | with_reducible apply Box.drewN | with_reducible apply Box.drew)
    obtain ⟨_, _, _, _, _, _, _, _, _⟩ := Bw1_0.four
    go_wp2_with fail
    refine (specPos_is true _ _ _ _ _ HP.out).mono ?_
    rintro e w2 ⟨rfl, hb2⟩
    go_wp2
    go_ret
    exact ⟨rfl, by repeat (first | with_reducible exact own_refl _ | with_reducible assumption | with_reducible apply own_alloc | with_reducible apply own_drewN | with_reducible apply own_drew | ((with_reducible refine own_setCell ?_ ?_ _); rotate_left; focus (first | (simp; done) | (simp; omega))) | (with_reducible (refine own_trans ?_ (by assumption))))⟩
end Go.Proofs.YtpglcpolbhlekaaDoor
