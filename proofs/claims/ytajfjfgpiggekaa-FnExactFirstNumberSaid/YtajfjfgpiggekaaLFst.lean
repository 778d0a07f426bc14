/- The walks of the laws FnExactFirstNumber and FnExactSecondNumber. -/
import Derived.Test.YtajfjfgpiggekaaFsW
import Derived.Test.YtajfjfgpiggekaaLoFirstNumber
import Derived.Test.YtajfjfgpiggekaaLoSecondNumber
namespace Go.Proofs.Ytajfjfgpiggekaa
open Go.ChangeShapes Go.WideShapes Go.ChangeAt Go.RowKit

theorem firstNumber_any (a b c d : Int) (h : isM a b c d = true) (hc : (c.natAbs : Int) ≤ 20000) (w : World) :
    Calls Try.prog 63 #[(.agg #[.int .i64 a, .int .i64 b, .int .i64 c, .int .i64 d])] w fun e w' => e = .returned (.int .i64 (fst a b c d)) ∧ Below w.heap.size w w' := by
  by_cases hz : c = 0
  · subst hz; exact firstNumber_zero a b d h w
  · exact firstNumber_nz a b c d h hc hz w
theorem l07First_any (a b c d : Int) (h : isM a b c d = true) (hc : (c.natAbs : Int) ≤ 20000) (w : World) :
    Calls Try.prog 61 #[(.agg #[.int .i64 a, .int .i64 b, .int .i64 c, .int .i64 d])] w fun e w' => e = .returned (.int .i64 (fst a b c d)) ∧ Below w.heap.size w w' := by
  by_cases hz : c = 0
  · subst hz; exact l07First_zero a b d h w
  · exact l07First_nz a b c d h hc hz w
theorem l07Given_no (a b c d : Int) (h : isM a b c d = false) (w : World) :
    Calls Try.prog 60 #[(.agg #[.int .i64 a, .int .i64 b, .int .i64 c, .int .i64 d])] w fun e w' => e = .returned (.int .i64 1) ∧ Below w.heap.size w w' := by
  have H := Lib.hid h
  clear h
  go_enter Try.func60, Try.ntmps60
  go_wp2_with fail
  refine (l01Is_is false _ _ _ _ _ H.out).mono ?_
  rintro e w1 ⟨rfl, hb1⟩
  go_wp2
  go_ret
  exact ⟨rfl, by repeat (first | with_reducible exact own_refl _ | with_reducible assumption | with_reducible apply own_alloc | with_reducible apply own_drewN | with_reducible apply own_drew | ((with_reducible refine own_setCell ?_ ?_ _); rotate_left; focus (first | (simp; done) | (simp; omega))) | (with_reducible (refine own_trans ?_ (by assumption))))⟩
set_option maxHeartbeats 1000000 in
theorem l07Given_big (a b c d : Int) (h : isM a b c d = true) (hc : ¬ (c.natAbs : Int) ≤ 20000) (w : World) :
    Calls Try.prog 60 #[(.agg #[.int .i64 a, .int .i64 b, .int .i64 c, .int .i64 d])] w fun e w' => e = .returned (.int .i64 3) ∧ Below w.heap.size w w' := by
  obtain ⟨_, _, ⟨_, _⟩, _, _⟩ := isM_ent h
  have H := Lib.hid h
  have w0 : IntKind.i64.wrap (-c) = -c := IntWalk.i64_in _ (by omega)
  have hg : (c < -c ∧ 20000 < -c) ∨ (¬ c < -c ∧ 20000 < c) := by omega
  clear h hc
  go_enter Try.func60, Try.ntmps60
  go_wp2_with fail
  refine (l01Is_is true _ _ _ _ _ H.out).mono ?_
  rintro e w1 ⟨rfl, hb1⟩
  have Bw1_0 : Box w1 (w.heap.size) [.int .i64 a, .int .i64 b, .int .i64 c, .int .i64 d] := by refine Box.below ?_ hb1; repeat (first | with_reducible assumption | with_reducible exact Box.new _ _ _ | (with_reducible refine Box.newAt ?_ _ _; (simp; done)) | with_reducible apply Box.alloc | with_reducible apply Box.drewN | with_reducible apply Box.drew)
  obtain ⟨_, _, _, _, _, _, _, _, _⟩ := Bw1_0.four
  rcases hg with ⟨g1, g2⟩ | ⟨g1, g2⟩
  all_goals
    go_wp2
    go_ret
    exact ⟨rfl, by repeat (first | with_reducible exact own_refl _ | with_reducible assumption | with_reducible apply own_alloc | with_reducible apply own_drewN | with_reducible apply own_drew | ((with_reducible refine own_setCell ?_ ?_ _); rotate_left; focus (first | (simp; done) | (simp; omega))) | (with_reducible (refine own_trans ?_ (by assumption))))⟩
set_option maxHeartbeats 1000000 in
theorem l07Given_ok (a b c d : Int) (h : isM a b c d = true) (hc : (c.natAbs : Int) ≤ 20000) (w : World) :
    Calls Try.prog 60 #[(.agg #[.int .i64 a, .int .i64 b, .int .i64 c, .int .i64 d])] w fun e w' => e = .returned (.int .i64 0) ∧ Below w.heap.size w w' := by
  obtain ⟨_, _, ⟨_, _⟩, _, _⟩ := isM_ent h
  have H := Lib.hid h
  have w0 : IntKind.i64.wrap (-c) = -c := IntWalk.i64_in _ (by omega)
  have hg : (c < -c ∧ ¬ 20000 < -c) ∨ (¬ c < -c ∧ ¬ 20000 < c) := by omega
  clear h hc
  go_enter Try.func60, Try.ntmps60
  go_wp2_with fail
  refine (l01Is_is true _ _ _ _ _ H.out).mono ?_
  rintro e w1 ⟨rfl, hb1⟩
  have Bw1_0 : Box w1 (w.heap.size) [.int .i64 a, .int .i64 b, .int .i64 c, .int .i64 d] := by refine Box.below ?_ hb1; repeat (first | with_reducible assumption | with_reducible exact Box.new _ _ _ | (with_reducible refine Box.newAt ?_ _ _; (simp; done)) | with_reducible apply Box.alloc | with_reducible apply Box.drewN | with_reducible apply Box.drew)
  obtain ⟨_, _, _, _, _, _, _, _, _⟩ := Bw1_0.four
  rcases hg with ⟨g1, g2⟩ | ⟨g1, g2⟩
  all_goals
    go_wp2
    go_ret
    exact ⟨rfl, by repeat (first | with_reducible exact own_refl _ | with_reducible assumption | with_reducible apply own_alloc | with_reducible apply own_drewN | with_reducible apply own_drew | ((with_reducible refine own_setCell ?_ ?_ _); rotate_left; focus (first | (simp; done) | (simp; omega))) | (with_reducible (refine own_trans ?_ (by assumption))))⟩

theorem specFst_no (k : Int) (a b c d : Int) (hk : (k != 0) = true) (hc : ∀ w : World, Calls Try.prog 60 #[(.agg #[.int .i64 a, .int .i64 b, .int .i64 c, .int .i64 d])] w fun e w' => e = .returned (.int .i64 k) ∧ Below w.heap.size w w') (w : World) :
    Calls Try.prog 32 #[(.agg #[.int .i64 a, .int .i64 b, .int .i64 c, .int .i64 d])] w fun e w' => e = .returned (.tuple #[(.int .i64 0), (.int .i64 k)]) ∧ Below w.heap.size w w' := by
  have HC := Lib.hid hc
  clear hc
  go_enter Try.func32, Try.ntmps32
  go_wp2_with fail
  refine (HC.out _).mono ?_
  rintro e w1 ⟨rfl, hb1⟩
  go_wp2
  go_ret2
  exact ⟨rfl, by repeat (first | with_reducible exact own_refl _ | with_reducible assumption | with_reducible apply own_alloc | with_reducible apply own_drewN | with_reducible apply own_drew | ((with_reducible refine own_setCell ?_ ?_ _); rotate_left; focus (first | (simp; done) | (simp; omega))) | (with_reducible (refine own_trans ?_ (by assumption))))⟩
theorem specFst_yes (a b c d : Int) (h : isM a b c d = true) (hc : (c.natAbs : Int) ≤ 20000) (w : World) :
    Calls Try.prog 32 #[(.agg #[.int .i64 a, .int .i64 b, .int .i64 c, .int .i64 d])] w fun e w' => e = .returned (.tuple #[(.int .i64 (fst a b c d)), (.int .i64 0)]) ∧ Below w.heap.size w w' := by
  have HC := Lib.hid (fun w => l07Given_ok a b c d h hc w)
  have HF := Lib.hid (fun w => l07First_any a b c d h hc w)
  clear h hc
  go_enter Try.func32, Try.ntmps32
  go_wp2_with fail
  refine (HC.out _).mono ?_
  rintro e w1 ⟨rfl, hb1⟩
  have Bw1_0 : Box w1 (w.heap.size) [.int .i64 a, .int .i64 b, .int .i64 c, .int .i64 d] := by refine Box.below ?_ hb1; repeat (first | with_reducible assumption | with_reducible exact Box.new _ _ _ | (with_reducible refine Box.newAt ?_ _ _; (simp; done)) | with_reducible apply Box.alloc | with_reducible apply Box.drewN | with_reducible apply Box.drew)
  obtain ⟨_, _, _, _, _, _, _, _, _⟩ := Bw1_0.four
  go_wp2_with fail
  refine (HF.out _).mono ?_
  rintro e w2 ⟨rfl, hb2⟩
  go_wp2
  go_ret2
  exact ⟨rfl, by repeat (first | with_reducible exact own_refl _ | with_reducible assumption | with_reducible apply own_alloc | with_reducible apply own_drewN | with_reducible apply own_drew | ((with_reducible refine own_setCell ?_ ?_ _); rotate_left; focus (first | (simp; done) | (simp; omega))) | (with_reducible (refine own_trans ?_ (by assumption))))⟩
theorem specSnd_no (k : Int) (a b c d : Int) (hk : (k != 0) = true) (hc : ∀ w : World, Calls Try.prog 60 #[(.agg #[.int .i64 a, .int .i64 b, .int .i64 c, .int .i64 d])] w fun e w' => e = .returned (.int .i64 k) ∧ Below w.heap.size w w') (w : World) :
    Calls Try.prog 35 #[(.agg #[.int .i64 a, .int .i64 b, .int .i64 c, .int .i64 d])] w fun e w' => e = .returned (.tuple #[(.int .i64 0), (.int .i64 k)]) ∧ Below w.heap.size w w' := by
  have HC := Lib.hid hc
  clear hc
  go_enter Try.func35, Try.ntmps35
  go_wp2_with fail
  refine (HC.out _).mono ?_
  rintro e w1 ⟨rfl, hb1⟩
  go_wp2
  go_ret2
  exact ⟨rfl, by repeat (first | with_reducible exact own_refl _ | with_reducible assumption | with_reducible apply own_alloc | with_reducible apply own_drewN | with_reducible apply own_drew | ((with_reducible refine own_setCell ?_ ?_ _); rotate_left; focus (first | (simp; done) | (simp; omega))) | (with_reducible (refine own_trans ?_ (by assumption))))⟩
theorem implFst_no (a b c d : Int) (h : isM a b c d = false) (w : World) :
    Calls Try.prog 34 #[(.agg #[.int .i64 a, .int .i64 b, .int .i64 c, .int .i64 d])] w fun e w' => e = .returned (.tuple #[(.int .i64 0), (.int .i64 1)]) ∧ Below w.heap.size w w' := by
  have H := Lib.hid h
  clear h
  go_enter Try.func34, Try.ntmps34
  go_wp2_with fail
  refine (implIs_is false _ _ _ _ _ H.out).mono ?_
  rintro e w1 ⟨rfl, hb1⟩
  go_wp2
  go_ret2
  exact ⟨rfl, by repeat (first | with_reducible exact own_refl _ | with_reducible assumption | with_reducible apply own_alloc | with_reducible apply own_drewN | with_reducible apply own_drew | ((with_reducible refine own_setCell ?_ ?_ _); rotate_left; focus (first | (simp; done) | (simp; omega))) | (with_reducible (refine own_trans ?_ (by assumption))))⟩
theorem within_c {c : Int} (r : Bool) (hr : decide ((c.natAbs : Int) ≤ 20000) = r) (w : World) :
    Calls Try.prog 53 #[(.int .i64 c), (.int .i64 20000)] w fun e w' => e = .returned (.bool r) ∧ w = w' := by
  refine isWithin_is r c 20000 (by omega) (by omega) ?_ w
  rw [← hr]
  unfold inW
  rw [Bool.eq_iff_iff]
  simp
  omega
theorem implFst_big (a b c d : Int) (h : isM a b c d = true) (hc : ¬ (c.natAbs : Int) ≤ 20000) (w : World) :
    Calls Try.prog 34 #[(.agg #[.int .i64 a, .int .i64 b, .int .i64 c, .int .i64 d])] w fun e w' => e = .returned (.tuple #[(.int .i64 0), (.int .i64 3)]) ∧ Below w.heap.size w w' := by
  have H := Lib.hid h
  have HW := Lib.hid (fun w => within_c false (decide_eq_false hc) w)
  clear h hc
  go_enter Try.func34, Try.ntmps34
  go_wp2_with fail
  refine (implIs_is true _ _ _ _ _ H.out).mono ?_
  rintro e w1 ⟨rfl, hb1⟩
  have Bw1_0 : Box w1 (w.heap.size) [.int .i64 a, .int .i64 b, .int .i64 c, .int .i64 d] := by refine Box.below ?_ hb1; repeat (first | with_reducible assumption | with_reducible exact Box.new _ _ _ | (with_reducible refine Box.newAt ?_ _ _; (simp; done)) | with_reducible apply Box.alloc | with_reducible apply Box.drewN | with_reducible apply Box.drew)
  obtain ⟨_, _, _, _, _, _, _, _, _⟩ := Bw1_0.four
  go_wp2_with fail
  refine (HW.out _).mono ?_
  rintro e w2 ⟨rfl, rfl⟩
  go_wp2
  go_ret2
  exact ⟨rfl, by repeat (first | with_reducible exact own_refl _ | with_reducible assumption | with_reducible apply own_alloc | with_reducible apply own_drewN | with_reducible apply own_drew | ((with_reducible refine own_setCell ?_ ?_ _); rotate_left; focus (first | (simp; done) | (simp; omega))) | (with_reducible (refine own_trans ?_ (by assumption))))⟩
theorem implFst_yes (a b c d : Int) (h : isM a b c d = true) (hc : (c.natAbs : Int) ≤ 20000) (w : World) :
    Calls Try.prog 34 #[(.agg #[.int .i64 a, .int .i64 b, .int .i64 c, .int .i64 d])] w fun e w' => e = .returned (.tuple #[(.int .i64 (fst a b c d)), (.int .i64 0)]) ∧ Below w.heap.size w w' := by
  have H := Lib.hid h
  have HW := Lib.hid (fun w => within_c true (decide_eq_true hc) w)
  have HF := Lib.hid (fun w => firstNumber_any a b c d h hc w)
  clear h hc
  go_enter Try.func34, Try.ntmps34
  go_wp2_with fail
  refine (implIs_is true _ _ _ _ _ H.out).mono ?_
  rintro e w1 ⟨rfl, hb1⟩
  have Bw1_0 : Box w1 (w.heap.size) [.int .i64 a, .int .i64 b, .int .i64 c, .int .i64 d] := by refine Box.below ?_ hb1; repeat (first | with_reducible assumption | with_reducible exact Box.new _ _ _ | (with_reducible refine Box.newAt ?_ _ _; (simp; done)) | with_reducible apply Box.alloc | with_reducible apply Box.drewN | with_reducible apply Box.drew)
  obtain ⟨_, _, _, _, _, _, _, _, _⟩ := Bw1_0.four
  go_wp2_with fail
  refine (HW.out _).mono ?_
  rintro e w2 ⟨rfl, rfl⟩
  go_wp2_with fail
  refine (HF.out _).mono ?_
  rintro e w2 ⟨rfl, hb2⟩
  go_wp2
  go_ret2
  exact ⟨rfl, by repeat (first | with_reducible exact own_refl _ | with_reducible assumption | with_reducible apply own_alloc | with_reducible apply own_drewN | with_reducible apply own_drew | ((with_reducible refine own_setCell ?_ ?_ _); rotate_left; focus (first | (simp; done) | (simp; omega))) | (with_reducible (refine own_trans ?_ (by assumption))))⟩
theorem implSnd_no (k : Int) (a b c d : Int) (hk : (k != 0) = true) (hc : ∀ w : World, Calls Try.prog 34 #[(.agg #[.int .i64 a, .int .i64 b, .int .i64 c, .int .i64 d])] w fun e w' => e = .returned (.tuple #[(.int .i64 0), (.int .i64 k)]) ∧ Below w.heap.size w w') (w : World) :
    Calls Try.prog 36 #[(.agg #[.int .i64 a, .int .i64 b, .int .i64 c, .int .i64 d])] w fun e w' => e = .returned (.tuple #[(.int .i64 0), (.int .i64 k)]) ∧ Below w.heap.size w w' := by
  have HC := Lib.hid hc
  clear hc
  go_enter Try.func36, Try.ntmps36
  go_wp2_with fail
  refine (HC.out _).mono ?_
  rintro e w1 ⟨rfl, hb1⟩
  go_wp2
  go_ret2
  exact ⟨rfl, by repeat (first | with_reducible exact own_refl _ | with_reducible assumption | with_reducible apply own_alloc | with_reducible apply own_drewN | with_reducible apply own_drew | ((with_reducible refine own_setCell ?_ ?_ _); rotate_left; focus (first | (simp; done) | (simp; omega))) | (with_reducible (refine own_trans ?_ (by assumption))))⟩
/-- the second number -/
def snd (a b c d : Int) : Int := fst a b c d - 3 * sgn c * sgn (a + d)
set_option maxRecDepth 100000 in
set_option maxHeartbeats 4000000 in
theorem implSnd_yes (a b c d : Int) (h : isM a b c d = true) (hc : (c.natAbs : Int) ≤ 20000) (w : World) :
    Calls Try.prog 36 #[(.agg #[.int .i64 a, .int .i64 b, .int .i64 c, .int .i64 d])] w fun e w' => e = .returned (.tuple #[(.int .i64 (snd a b c d)), (.int .i64 0)]) ∧ Below w.heap.size w w' := by
  obtain ⟨ea, eb, ec, ed, _⟩ := isM_ent h
  have bf := fst_bd h hc
  obtain ⟨f, hf⟩ : ∃ f, fst a b c d = f := ⟨_, rfl⟩
  obtain ⟨s, hs⟩ : ∃ s, sgn c = s := ⟨_, rfl⟩
  obtain ⟨t, ht⟩ : ∃ t, sgn (a + d) = t := ⟨_, rfl⟩
  have bs := sgn_bd c
  have bt := sgn_bd (a + d)
  rw [hs] at bs
  rw [ht] at bt
  rw [hf] at bf
  unfold snd
  rw [hf, hs, ht]
  have HF := Lib.hid (fun w => implFst_yes a b c d h hc w)
  rw [hf] at HF
  have HS := Lib.hid (fun w => signOf_any c w)
  rw [hs] at HS
  have HU := Lib.hid (fun w => signOf_any (a + d) w)
  rw [ht] at HU
  have HT := Lib.hid (fun w => traceOf_any a b c d ea ed w)
  have m1 := mul_bd (a := 3 * s) (d := t) (A := 3) (D := 1) (by omega) (by omega)
  have e3 : IntKind.i64.wrap (3 * s) = 3 * s := IntWalk.i64_in _ (by omega)
  have e4 : IntKind.i64.wrap (3 * s * t) = 3 * s * t := IntWalk.i64_in _ (by omega)
  have e5 : IntKind.i64.wrap (f - 3 * s * t) = f - 3 * s * t := IntWalk.i64_in _ (by omega)
  clear h hc hf hs ht m1 bf bs bt eb ec ea ed
  go_enter Try.func36, Try.ntmps36
  go_wp2_with fail
  refine (HF.out _).mono ?_
  rintro e w1 ⟨rfl, hb1⟩
  have T : Below w.heap.size w w1 := by repeat (first | with_reducible exact own_refl _ | with_reducible assumption | with_reducible apply own_alloc | with_reducible apply own_drewN | with_reducible apply own_drew | ((with_reducible refine own_setCell ?_ ?_ _); rotate_left; focus (first | (simp; done) | (simp; omega))) | (with_reducible (refine own_trans ?_ (by assumption))))
  have BA : Box w1 w.heap.size [.int .i64 a, .int .i64 b, .int .i64 c, .int .i64 d] := Box.below (Box.new _ _ _) hb1
  clear hb1
  obtain ⟨_, _, _, _, _, _, _, _, _⟩ := BA.four
  go_upto_region 4 with fail
  go_region_held3 (fun w' => w'.cell? ⟨w.heap.size, 0, none⟩ = some (.int .i64 a) ∧ w'.cell? ⟨w.heap.size, 1, none⟩ = some (.int .i64 b) ∧ w'.cell? ⟨w.heap.size, 2, none⟩ = some (.int .i64 c) ∧ w'.cell? ⟨w.heap.size, 3, none⟩ = some (.int .i64 d)) (go_keep)
    (first
      | (go_at_call 66; with_reducible refine (HS.out _).mono ?_; rintro e w' ⟨rfl, rfl⟩)
      | (go_at_call 66; with_reducible refine (HU.out _).mono ?_; rintro e w' ⟨rfl, rfl⟩)
      | (go_at_call 67; with_reducible refine (HT.out _).mono ?_; rintro e w2 ⟨rfl, hb2⟩; have T := (by first | exact own_trans T hb2 | exact own_trans (own_drew T) hb2 : Below w.heap.size w w2); have BA := Box.below (by first | exact BA | exact Box.drew BA) hb2; obtain ⟨_, _, _, _, _, _, _, _, _⟩ := BA.four))
  all_goals
    go_wp2
    go_ret2
    exact ⟨rfl, by repeat (first | with_reducible exact own_refl _ | with_reducible assumption | with_reducible apply own_alloc | with_reducible apply own_drewN | with_reducible apply own_drew | ((with_reducible refine own_setCell ?_ ?_ _); rotate_left; focus (first | (simp; done) | (simp; omega))) | (with_reducible (refine own_trans ?_ (by assumption))))⟩
set_option maxRecDepth 100000 in
set_option maxHeartbeats 4000000 in
theorem specSnd_yes (a b c d : Int) (h : isM a b c d = true) (hc : (c.natAbs : Int) ≤ 20000) (w : World) :
    Calls Try.prog 35 #[(.agg #[.int .i64 a, .int .i64 b, .int .i64 c, .int .i64 d])] w fun e w' => e = .returned (.tuple #[(.int .i64 (snd a b c d)), (.int .i64 0)]) ∧ Below w.heap.size w w' := by
  obtain ⟨ea, eb, ec, ed, _⟩ := isM_ent h
  have bf := fst_bd h hc
  obtain ⟨f, hf⟩ : ∃ f, fst a b c d = f := ⟨_, rfl⟩
  obtain ⟨s, hs⟩ : ∃ s, sgn c = s := ⟨_, rfl⟩
  obtain ⟨t, ht⟩ : ∃ t, sgn (a + d) = t := ⟨_, rfl⟩
  have bs := sgn_bd c
  have bt := sgn_bd (a + d)
  rw [hs] at bs
  rw [ht] at bt
  rw [hf] at bf
  unfold snd
  rw [hf, hs, ht]
  have HC := Lib.hid (fun w => l07Given_ok a b c d h hc w)
  have HF := Lib.hid (fun w => l07First_any a b c d h hc w)
  rw [hf] at HF
  have HS := Lib.hid (fun w => l07Sign_any c w)
  rw [hs] at HS
  have HU := Lib.hid (fun w => l07Sign_any (a + d) w)
  rw [ht] at HU
  have HT := Lib.hid (fun w => l01Trace_any a b c d ea ed w)
  have m1 := mul_bd (a := 3 * s) (d := t) (A := 3) (D := 1) (by omega) (by omega)
  have e3 : IntKind.i64.wrap (3 * s) = 3 * s := IntWalk.i64_in _ (by omega)
  have e4 : IntKind.i64.wrap (3 * s * t) = 3 * s * t := IntWalk.i64_in _ (by omega)
  have e5 : IntKind.i64.wrap (f - 3 * s * t) = f - 3 * s * t := IntWalk.i64_in _ (by omega)
  clear h hc hf hs ht m1 bf bs bt eb ec ea ed
  go_enter Try.func35, Try.ntmps35
  go_wp2_with fail
  refine (HC.out _).mono ?_
  rintro e w1 ⟨rfl, hb1⟩
  have T : Below w.heap.size w w1 := by repeat (first | with_reducible exact own_refl _ | with_reducible assumption | with_reducible apply own_alloc | with_reducible apply own_drewN | with_reducible apply own_drew | ((with_reducible refine own_setCell ?_ ?_ _); rotate_left; focus (first | (simp; done) | (simp; omega))) | (with_reducible (refine own_trans ?_ (by assumption))))
  have BA : Box w1 w.heap.size [.int .i64 a, .int .i64 b, .int .i64 c, .int .i64 d] := Box.below (Box.new _ _ _) hb1
  clear hb1
  obtain ⟨_, _, _, _, _, _, _, _, _⟩ := BA.four
  go_upto_region 4 with fail
  go_region_held3 (fun w' => w'.cell? ⟨w.heap.size, 0, none⟩ = some (.int .i64 a) ∧ w'.cell? ⟨w.heap.size, 1, none⟩ = some (.int .i64 b) ∧ w'.cell? ⟨w.heap.size, 2, none⟩ = some (.int .i64 c) ∧ w'.cell? ⟨w.heap.size, 3, none⟩ = some (.int .i64 d)) (go_keep)
    (first
      | (go_at_call 64; with_reducible refine (HS.out _).mono ?_; rintro e w' ⟨rfl, rfl⟩)
      | (go_at_call 64; with_reducible refine (HU.out _).mono ?_; rintro e w' ⟨rfl, rfl⟩)
      | (go_at_call 61; with_reducible refine (HF.out _).mono ?_; rintro e w2 ⟨rfl, hb2⟩; have T := (by first | exact own_trans T hb2 | exact own_trans (own_drew T) hb2 : Below w.heap.size w w2); have BA := Box.below (by first | exact BA | exact Box.drew BA) hb2; obtain ⟨_, _, _, _, _, _, _, _, _⟩ := BA.four)
      | (go_at_call 65; with_reducible refine (HT.out _).mono ?_; rintro e w2 ⟨rfl, hb2⟩; have T := (by first | exact own_trans T hb2 | exact own_trans (own_drew T) hb2 : Below w.heap.size w w2); have BA := Box.below (by first | exact BA | exact Box.drew BA) hb2; obtain ⟨_, _, _, _, _, _, _, _, _⟩ := BA.four))
  all_goals
    go_wp2
    go_ret2
    exact ⟨rfl, by repeat (first | with_reducible exact own_refl _ | with_reducible assumption | with_reducible apply own_alloc | with_reducible apply own_drewN | with_reducible apply own_drew | ((with_reducible refine own_setCell ?_ ?_ _); rotate_left; focus (first | (simp; done) | (simp; omega))) | (with_reducible (refine own_trans ?_ (by assumption))))⟩
theorem lawFirstNumber_walk (a b c d : Int) (_ : I64 a) (_ : I64 b) (_ : I64 c) (_ : I64 d) (w : World) :
    Calls Try.prog 9 #[(.agg #[.int .i64 a, .int .i64 b, .int .i64 c, .int .i64 d])] w fun e w' => e = .returned (.bool true) ∧ Below w.heap.size w w' := by
  rcases h : isM a b c d with _ | _
  · exact lawFirstNumber_of a b c d 0 1 (fun w => specFst_no 1 a b c d rfl (fun w => l07Given_no a b c d h w) w) (fun w => implFst_no a b c d h w) w
  by_cases hc : (c.natAbs : Int) ≤ 20000
  · exact lawFirstNumber_of a b c d _ 0 (fun w => specFst_yes a b c d h hc w) (fun w => implFst_yes a b c d h hc w) w
  · exact lawFirstNumber_of a b c d 0 3 (fun w => specFst_no 3 a b c d rfl (fun w => l07Given_big a b c d h hc w) w) (fun w => implFst_big a b c d h hc w) w
theorem lawSecondNumber_walk (a b c d : Int) (_ : I64 a) (_ : I64 b) (_ : I64 c) (_ : I64 d) (w : World) :
    Calls Try.prog 10 #[(.agg #[.int .i64 a, .int .i64 b, .int .i64 c, .int .i64 d])] w fun e w' => e = .returned (.bool true) ∧ Below w.heap.size w w' := by
  rcases h : isM a b c d with _ | _
  · exact lawSecondNumber_of a b c d 0 1 (fun w => specSnd_no 1 a b c d rfl (fun w => l07Given_no a b c d h w) w) (fun w => implSnd_no 1 a b c d rfl (fun w => implFst_no a b c d h w) w) w
  by_cases hc : (c.natAbs : Int) ≤ 20000
  · exact lawSecondNumber_of a b c d _ 0 (fun w => specSnd_yes a b c d h hc w) (fun w => implSnd_yes a b c d h hc w) w
  · exact lawSecondNumber_of a b c d 0 3 (fun w => specSnd_no 3 a b c d rfl (fun w => l07Given_big a b c d h hc w) w) (fun w => implSnd_no 3 a b c d rfl (fun w => implFst_big a b c d h hc w) w) w
end Go.Proofs.Ytajfjfgpiggekaa
