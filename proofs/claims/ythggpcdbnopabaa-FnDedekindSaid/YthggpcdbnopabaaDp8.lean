/- The draws of chapter 7: what they leave is two numbers, a number or a fraction, of int64, and nothing that was there has turned. -/
import Derived.Test.YthggpcdbnopabaaDpF
namespace Go.Proofs.Ythggpcdbnopabaa
open Go.ChangeShapes Go.WideShapes Go.ChangeAt Go.RowKit

/-- What a draw of a fraction leaves. -/
def FrD (w : World) (e : Ending) (w' : World) : Prop := ∃ p q : Int, e = .returned (.agg #[.int .i64 p, .int .i64 q]) ∧ -2000000000 ≤ p ∧ p ≤ 2000000000 ∧ -2000000000 ≤ q ∧ q ≤ 2000000000 ∧ Below w.heap.size w w'
/-- What a draw of a number leaves. -/
def NuD (w : World) (e : Ending) (w' : World) : Prop := ∃ x : Int, e = .returned (.int .i64 x) ∧ I64 x ∧ Below w.heap.size w w'
set_option maxHeartbeats 2000000 in
theorem l03Any_any (cd : Value) (w : World) (h : CodeA w cd) : Calls Try.prog 41 #[cd] w (FrD w) := by
  have HC := Lib.hid h
  obtain ⟨ad, n, cap, rfl, _, _⟩ := id h
  clear h
  go_enter Try.func41, Try.ntmps41
  go_wp2_with fail
  refine (l01From_any _ _ (HC.out.below (own_alloc (own_refl w) _))).mono ?_
  rintro e w1 ⟨rfl, S1, hb1⟩
  simp only [World.size_alloc] at S1 hb1
  simp only [World.size_alloc]
  have BZ : Box w1 w.heap.size [.int .i64 0, .int .i64 0] := Box.low (Box.new _ _ _) hb1 (by omega)
  have T1 : Below w.heap.size w w1 := (own_alloc (own_refl w) _).trans (hb1.mono (by omega))
  have hz1 := T1.size
  clear hb1
  go_wp2_with fail
  refine (l01DrawFraction_any (w.heap.size + 1) _ S1).mono ?_
  rintro e w2 ⟨p, q, rfl, p1, p2, q1, q2, D2, S2⟩
  have T2 := D2.belowL T1 hz1 (by omega)
  have BZ := D2.box (by omega) BZ
  go_wp2_with fail
  refine (l01BadFraction_any p q ⟨p1, p2⟩ ⟨q1, q2⟩ (w.heap.size + 1) _ S2).mono ?_
  rintro e w3 ⟨x, y, rfl, x1, x2, y1, y2, D3, S3⟩
  have T3 := D3.belowL T2 T2.size (by omega)
  have BZ := D3.box (by omega) BZ
  obtain ⟨_, _, _, _, _⟩ := BZ.two
  go_wp2
  obtain ⟨q0, q1⟩ : _ ∧ _ := ⟨(BZ.put2 (.int .i64 x) (.int .i64 y)).two.2.1, (BZ.put2 (.int .i64 x) (.int .i64 y)).two.2.2.1⟩
  exact bodyPost_ret (v := (.agg #[.int .i64 x, .int .i64 y])) (by simp [results, Try.results41, go_sem, q0, q1]) rfl ⟨x, y, rfl, x1, x2, y1, y2, by repeat (first | with_reducible exact own_refl _ | with_reducible assumption | with_reducible apply own_alloc | with_reducible apply own_drewN | with_reducible apply own_drew | ((with_reducible refine own_setCell ?_ ?_ _); rotate_left; focus (first | (simp; done) | (simp; omega))) | (with_reducible (refine own_trans ?_ (by assumption))))⟩
theorem drawSaw_any (cd : Value) (w : World) (h : CodeA w cd) : Calls Try.prog 23 #[cd] w (FrD w) := by
  have HC := Lib.hid h
  obtain ⟨ad, n, cap, rfl, _, _⟩ := id h
  clear h
  go_enter Try.func23, Try.ntmps23
  go_wp2_with fail
  refine (l03Any_any _ _ (HC.out.below (own_alloc (own_refl w) _))).mono ?_
  rintro e w1 ⟨x, y, rfl, x1, x2, y1, y2, hb1⟩
  have BZ : Box w1 w.heap.size [.int .i64 0, .int .i64 0] := Box.below (Box.new _ _ _) hb1
  obtain ⟨_, _, _, _, _⟩ := BZ.two
  go_wp2
  obtain ⟨q0, q1⟩ : _ ∧ _ := ⟨(BZ.put2 (.int .i64 x) (.int .i64 y)).two.2.1, (BZ.put2 (.int .i64 x) (.int .i64 y)).two.2.2.1⟩
  exact bodyPost_ret (v := (.agg #[.int .i64 x, .int .i64 y])) (by simp [results, Try.results23, go_sem, q0, q1]) rfl ⟨x, y, rfl, x1, x2, y1, y2, by repeat (first | with_reducible exact own_refl _ | with_reducible assumption | with_reducible apply own_alloc | with_reducible apply own_drewN | with_reducible apply own_drew | ((with_reducible refine own_setCell ?_ ?_ _); rotate_left; focus (first | (simp; done) | (simp; omega))) | (with_reducible (refine own_trans ?_ (by assumption))))⟩
theorem drawDed_any (cd : Value) (w : World) (h : CodeA w cd) : Calls Try.prog 5 #[cd] w (Two w) := by
  have HC := Lib.hid h
  obtain ⟨ad, n, cap, rfl, _, _⟩ := id h
  clear h
  go_enter Try.func5, Try.ntmps5
  go_wp2_with fail
  refine (l07Pair_any _ 20000 (by omega) (by omega) _ HC.out).mono ?_
  rintro e w1 ⟨x, y, rfl, x1, x2, y1, y2, hb1⟩
  go_wp2
  go_ret2
  exact ⟨x, y, rfl, x1, x2, y1, y2, hb1⟩
theorem drawEq_any (cd : Value) (w : World) (h : CodeA w cd) : Calls Try.prog 12 #[cd] w (Two w) := by
  have HC := Lib.hid h
  obtain ⟨ad, n, cap, rfl, _, _⟩ := id h
  clear h
  go_enter Try.func12, Try.ntmps12
  go_wp2_with fail
  refine (l07Pair_any _ 100 (by omega) (by omega) _ HC.out).mono ?_
  rintro e w1 ⟨x, y, rfl, x1, x2, y1, y2, hb1⟩
  go_wp2
  go_ret2
  exact ⟨x, y, rfl, x1, x2, y1, y2, hb1⟩
theorem drawRcp_any (cd : Value) (w : World) (h : CodeA w cd) : Calls Try.prog 8 #[cd] w (Two w) := by
  have HC := Lib.hid h
  obtain ⟨ad, n, cap, rfl, _, _⟩ := id h
  clear h
  go_enter Try.func8, Try.ntmps8
  go_wp2_with fail
  refine (l07Pair_any _ 20000 (by omega) (by omega) _ HC.out).mono ?_
  rintro e w1 ⟨x, y, rfl, x1, x2, y1, y2, hb1⟩
  have hw : IntKind.i64.wrap (-x) = -x := IntWalk.i64_in _ (by omega)
  rcases (show x < -x ∨ ¬ x < -x by omega) with hl | hl
  all_goals
    go_wp2
    go_ret2
    exact ⟨_, y, rfl, by omega, by omega, y1, y2, hb1⟩
theorem drawSums_any (cd : Value) (w : World) (h : CodeA w cd) : Calls Try.prog 17 #[cd] w (NuD w) := by
  have HC := Lib.hid h
  obtain ⟨ad, n, cap, rfl, _, _⟩ := id h
  clear h
  go_enter Try.func17, Try.ntmps17
  go_wp2_with fail
  refine (l01From_any _ _ HC.out).mono ?_
  rintro e w1 ⟨rfl, S1, hb1⟩
  go_wp2_with fail
  refine (l01Near_any 99 (by omega) (by omega) w.heap.size _ S1).mono ?_
  rintro e w2 ⟨x, rfl, x1, x2, D2, S2⟩
  go_wp2
  go_ret
  exact ⟨_, rfl, by unfold I64; omega, D2.belowL hb1 hb1.size (Nat.le_refl _)⟩
theorem drawTot_any (cd : Value) (w : World) (h : CodeA w cd) : Calls Try.prog 20 #[cd] w (NuD w) := by
  have HC := Lib.hid h
  obtain ⟨ad, n, cap, rfl, _, _⟩ := id h
  clear h
  go_enter Try.func20, Try.ntmps20
  go_wp2_with fail
  refine (l01From_any _ _ HC.out).mono ?_
  rintro e w1 ⟨rfl, S1, hb1⟩
  go_wp2_with fail
  refine (l01Near_any 11 (by omega) (by omega) w.heap.size _ S1).mono ?_
  rintro e w2 ⟨x, rfl, x1, x2, D2, S2⟩
  go_wp2
  go_ret
  exact ⟨_, rfl, by unfold I64; omega, D2.belowL hb1 hb1.size (Nat.le_refl _)⟩
end Go.Proofs.Ythggpcdbnopabaa
