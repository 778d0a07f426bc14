/- The walk of the law FnExactFirstConjugator. -/
import Derived.Test.YtmlbbhhjjepmkaaFcjJ
import Derived.Test.YtmlbbhhjjepmkaaLoFirstConjugator
namespace Go.Proofs.Ytmlbbhhjjepmkaa
open Go.ChangeShapes Go.WideShapes Go.ChangeAt Go.RowKit

set_option maxHeartbeats 1000000 in
theorem implFc_no1 (m n : Mat) (k : Int) (hm : isM m.a m.b m.c m.d = false) (w : World) :
    Calls Try.prog 9 #[(.agg #[.int .i64 m.a, .int .i64 m.b, .int .i64 m.c, .int .i64 m.d]), (.agg #[.int .i64 n.a, .int .i64 n.b, .int .i64 n.c, .int .i64 n.d]), (.int .i64 k)] w fun e w' => e = .returned (.tuple #[(.agg #[.int .i64 0, .int .i64 0, .int .i64 0, .int .i64 0]), (.int .i64 1)]) ∧ Below w.heap.size w w' := by
  have Hm := Lib.hid hm
  clear hm
  go_enter Try.func9, Try.ntmps9
  go_wp2
  go_step3
  go_wp2_with fail
  refine (implIs_M false m Hm.out _).mono ?_
  rintro e w1 ⟨rfl, hb1⟩
  have R1 : Box w1 (w.heap.size + 1 + 1) [.int .i64 0, .int .i64 0, .int .i64 0, .int .i64 0] := Box.below (Box.newAt (by simp) _ _) hb1
  obtain ⟨_, _, _, _, _, _, _, _, _⟩ := R1.four
  go_wp2
  rw [Exit.noGoto_ret]
  obtain ⟨q0, q1, q2, q3⟩ := R1.reads4C (.int .i64 0) (.int .i64 0) (.int .i64 0) (.int .i64 0)
  exact bodyPost_ret (v := .tuple #[(.agg #[.int .i64 0, .int .i64 0, .int .i64 0, .int .i64 0]), (.int .i64 1)]) (by simp [results, Try.results9, go_sem, q0, q1, q2, q3]) rfl ⟨rfl, by repeat (first | with_reducible exact own_refl _ | with_reducible assumption | with_reducible apply own_alloc | with_reducible apply own_drewN | with_reducible apply own_drew | ((with_reducible refine own_setCell ?_ ?_ _); rotate_left; focus (first | (simp; done) | (simp; omega))) | (with_reducible (refine own_trans ?_ (by assumption))))⟩
set_option maxHeartbeats 1000000 in
theorem implFc_no2 (m n : Mat) (k : Int) (hm : isM m.a m.b m.c m.d = true) (hn : isM n.a n.b n.c n.d = false) (w : World) :
    Calls Try.prog 9 #[(.agg #[.int .i64 m.a, .int .i64 m.b, .int .i64 m.c, .int .i64 m.d]), (.agg #[.int .i64 n.a, .int .i64 n.b, .int .i64 n.c, .int .i64 n.d]), (.int .i64 k)] w fun e w' => e = .returned (.tuple #[(.agg #[.int .i64 0, .int .i64 0, .int .i64 0, .int .i64 0]), (.int .i64 1)]) ∧ Below w.heap.size w w' := by
  have Hm := Lib.hid hm
  have Hn := Lib.hid hn
  clear hm hn
  go_enter Try.func9, Try.ntmps9
  go_wp2
  go_step3
  go_wp2_with fail
  refine (implIs_M true m Hm.out _).mono ?_
  rintro e w1 ⟨rfl, hb1⟩
  have R1 : Box w1 (w.heap.size + 1 + 1) [.int .i64 0, .int .i64 0, .int .i64 0, .int .i64 0] := Box.below (Box.newAt (by simp) _ _) hb1
  have N1 : Box w1 (w.heap.size + 1) [.int .i64 n.a, .int .i64 n.b, .int .i64 n.c, .int .i64 n.d] := Box.below (Box.alloc (Box.newAt (by simp) _ _) _) hb1
  obtain ⟨_, _, _, _, _, _, _, _, _⟩ := N1.four
  go_wp2_with fail
  refine (implIs_M false n Hn.out _).mono ?_
  rintro e w2 ⟨rfl, hb2⟩
  have R2 := R1.below hb2
  obtain ⟨_, _, _, _, _, _, _, _, _⟩ := R2.four
  go_wp2
  rw [Exit.noGoto_ret]
  obtain ⟨q0, q1, q2, q3⟩ := R2.reads4C (.int .i64 0) (.int .i64 0) (.int .i64 0) (.int .i64 0)
  exact bodyPost_ret (v := .tuple #[(.agg #[.int .i64 0, .int .i64 0, .int .i64 0, .int .i64 0]), (.int .i64 1)]) (by simp [results, Try.results9, go_sem, q0, q1, q2, q3]) rfl ⟨rfl, by repeat (first | with_reducible exact own_refl _ | with_reducible assumption | with_reducible apply own_alloc | with_reducible apply own_drewN | with_reducible apply own_drew | ((with_reducible refine own_setCell ?_ ?_ _); rotate_left; focus (first | (simp; done) | (simp; omega))) | (with_reducible (refine own_trans ?_ (by assumption))))⟩
set_option maxHeartbeats 1000000 in
theorem implFc_no3 (m n : Mat) (k : Int) (hm : isM m.a m.b m.c m.d = true) (hn : isM n.a n.b n.c n.d = true) (hk : ¬ (0 ≤ k ∧ k ≤ 3)) (w : World) :
    Calls Try.prog 9 #[(.agg #[.int .i64 m.a, .int .i64 m.b, .int .i64 m.c, .int .i64 m.d]), (.agg #[.int .i64 n.a, .int .i64 n.b, .int .i64 n.c, .int .i64 n.d]), (.int .i64 k)] w fun e w' => e = .returned (.tuple #[(.agg #[.int .i64 0, .int .i64 0, .int .i64 0, .int .i64 0]), (.int .i64 2)]) ∧ Below w.heap.size w w' := by
  have Hm := Lib.hid hm
  have Hn := Lib.hid hn
  have HMW := Lib.hid (fun w => implMw_no k hk w)
  clear hm hn hk
  go_enter Try.func9, Try.ntmps9
  go_wp2
  go_step3
  go_wp2_with fail
  refine (implIs_M true m Hm.out _).mono ?_
  rintro e w1 ⟨rfl, hb1⟩
  have R1 : Box w1 (w.heap.size + 1 + 1) [.int .i64 0, .int .i64 0, .int .i64 0, .int .i64 0] := Box.below (Box.newAt (by simp) _ _) hb1
  have N1 : Box w1 (w.heap.size + 1) [.int .i64 n.a, .int .i64 n.b, .int .i64 n.c, .int .i64 n.d] := Box.below (Box.alloc (Box.newAt (by simp) _ _) _) hb1
  obtain ⟨_, _, _, _, _, _, _, _, _⟩ := N1.four
  go_wp2_with fail
  refine (implIs_M true n Hn.out _).mono ?_
  rintro e w2 ⟨rfl, hb2⟩
  go_wp2_with fail
  refine (HMW.out _).mono ?_
  rintro e w4 ⟨v, rfl, hsl, hb4⟩
  have R2 := (R1.below hb2).below hb4
  obtain ⟨_, _, _, _, _, _, _, _, _⟩ := R2.four
  go_wp2
  rw [Exit.noGoto_ret]
  obtain ⟨q0, q1, q2, q3⟩ := R2.reads4C (.int .i64 0) (.int .i64 0) (.int .i64 0) (.int .i64 0)
  exact bodyPost_ret (v := .tuple #[(.agg #[.int .i64 0, .int .i64 0, .int .i64 0, .int .i64 0]), (.int .i64 2)]) (by simp [results, Try.results9, go_sem, q0, q1, q2, q3]) rfl ⟨rfl, by repeat (first | with_reducible exact own_refl _ | with_reducible assumption | with_reducible apply own_alloc | with_reducible apply own_drewN | with_reducible apply own_drew | ((with_reducible refine own_setCell ?_ ?_ _); rotate_left; focus (first | (simp; done) | (simp; omega))) | (with_reducible (refine own_trans ?_ (by assumption))))⟩
set_option maxHeartbeats 1000000 in
theorem specFc_no1 (m n : Mat) (k : Int) (hm : isM m.a m.b m.c m.d = false) (w : World) :
    Calls Try.prog 7 #[(.agg #[.int .i64 m.a, .int .i64 m.b, .int .i64 m.c, .int .i64 m.d]), (.agg #[.int .i64 n.a, .int .i64 n.b, .int .i64 n.c, .int .i64 n.d]), (.int .i64 k)] w fun e w' => e = .returned (.tuple #[(.agg #[.int .i64 0, .int .i64 0, .int .i64 0, .int .i64 0]), (.int .i64 1)]) ∧ Below w.heap.size w w' := by
  have Hm := Lib.hid hm
  clear hm
  go_enter Try.func7, Try.ntmps7
  go_wp2_with fail
  refine (l01Is_M false m Hm.out _).mono ?_
  rintro e w1 ⟨rfl, hb1⟩
  have R1 : Box w1 (w.heap.size + 1 + 1) [.int .i64 0, .int .i64 0, .int .i64 0, .int .i64 0] := Box.below (Box.newAt (by simp) _ _) hb1
  obtain ⟨_, _, _, _, _, _, _, _, _⟩ := R1.four
  go_wp2
  obtain ⟨q0, q1, q2, q3⟩ := R1.reads4C (.int .i64 0) (.int .i64 0) (.int .i64 0) (.int .i64 0)
  exact bodyPost_ret (v := .tuple #[(.agg #[.int .i64 0, .int .i64 0, .int .i64 0, .int .i64 0]), (.int .i64 1)]) (by simp [results, Try.results7, go_sem, q0, q1, q2, q3]) rfl ⟨rfl, by repeat (first | with_reducible exact own_refl _ | with_reducible assumption | with_reducible apply own_alloc | with_reducible apply own_drewN | with_reducible apply own_drew | ((with_reducible refine own_setCell ?_ ?_ _); rotate_left; focus (first | (simp; done) | (simp; omega))) | (with_reducible (refine own_trans ?_ (by assumption))))⟩
set_option maxHeartbeats 1000000 in
theorem specFc_no2 (m n : Mat) (k : Int) (hm : isM m.a m.b m.c m.d = true) (hn : isM n.a n.b n.c n.d = false) (w : World) :
    Calls Try.prog 7 #[(.agg #[.int .i64 m.a, .int .i64 m.b, .int .i64 m.c, .int .i64 m.d]), (.agg #[.int .i64 n.a, .int .i64 n.b, .int .i64 n.c, .int .i64 n.d]), (.int .i64 k)] w fun e w' => e = .returned (.tuple #[(.agg #[.int .i64 0, .int .i64 0, .int .i64 0, .int .i64 0]), (.int .i64 1)]) ∧ Below w.heap.size w w' := by
  have Hm := Lib.hid hm
  have Hn := Lib.hid hn
  clear hm hn
  go_enter Try.func7, Try.ntmps7
  go_wp2_with fail
  refine (l01Is_M true m Hm.out _).mono ?_
  rintro e w1 ⟨rfl, hb1⟩
  have R1 : Box w1 (w.heap.size + 1 + 1) [.int .i64 0, .int .i64 0, .int .i64 0, .int .i64 0] := Box.below (Box.newAt (by simp) _ _) hb1
  have N1 : Box w1 (w.heap.size + 1) [.int .i64 n.a, .int .i64 n.b, .int .i64 n.c, .int .i64 n.d] := Box.below (Box.alloc (Box.newAt (by simp) _ _) _) hb1
  obtain ⟨_, _, _, _, _, _, _, _, _⟩ := N1.four
  go_wp2_with fail
  refine (l01Is_M false n Hn.out _).mono ?_
  rintro e w2 ⟨rfl, hb2⟩
  have R2 := R1.below hb2
  obtain ⟨_, _, _, _, _, _, _, _, _⟩ := R2.four
  go_wp2
  obtain ⟨q0, q1, q2, q3⟩ := R2.reads4C (.int .i64 0) (.int .i64 0) (.int .i64 0) (.int .i64 0)
  exact bodyPost_ret (v := .tuple #[(.agg #[.int .i64 0, .int .i64 0, .int .i64 0, .int .i64 0]), (.int .i64 1)]) (by simp [results, Try.results7, go_sem, q0, q1, q2, q3]) rfl ⟨rfl, by repeat (first | with_reducible exact own_refl _ | with_reducible assumption | with_reducible apply own_alloc | with_reducible apply own_drewN | with_reducible apply own_drew | ((with_reducible refine own_setCell ?_ ?_ _); rotate_left; focus (first | (simp; done) | (simp; omega))) | (with_reducible (refine own_trans ?_ (by assumption))))⟩
set_option maxHeartbeats 1000000 in
theorem specFc_no3 (m n : Mat) (k : Int) (hm : isM m.a m.b m.c m.d = true) (hn : isM n.a n.b n.c n.d = true) (hk : ¬ (0 ≤ k ∧ k ≤ 3)) (w : World) :
    Calls Try.prog 7 #[(.agg #[.int .i64 m.a, .int .i64 m.b, .int .i64 m.c, .int .i64 m.d]), (.agg #[.int .i64 n.a, .int .i64 n.b, .int .i64 n.c, .int .i64 n.d]), (.int .i64 k)] w fun e w' => e = .returned (.tuple #[(.agg #[.int .i64 0, .int .i64 0, .int .i64 0, .int .i64 0]), (.int .i64 2)]) ∧ Below w.heap.size w w' := by
  have Hm := Lib.hid hm
  have Hn := Lib.hid hn
  have HR := Lib.hid (show inR k 0 3 = false from decide_eq_false hk)
  clear hm hn hk
  go_enter Try.func7, Try.ntmps7
  go_wp2_with fail
  refine (l01Is_M true m Hm.out _).mono ?_
  rintro e w1 ⟨rfl, hb1⟩
  have R1 : Box w1 (w.heap.size + 1 + 1) [.int .i64 0, .int .i64 0, .int .i64 0, .int .i64 0] := Box.below (Box.newAt (by simp) _ _) hb1
  have N1 : Box w1 (w.heap.size + 1) [.int .i64 n.a, .int .i64 n.b, .int .i64 n.c, .int .i64 n.d] := Box.below (Box.alloc (Box.newAt (by simp) _ _) _) hb1
  obtain ⟨_, _, _, _, _, _, _, _, _⟩ := N1.four
  go_wp2_with fail
  refine (l01Is_M true n Hn.out _).mono ?_
  rintro e w2 ⟨rfl, hb2⟩
  go_wp2_with fail
  refine (inR03 false _ HR.out _).mono ?_
  rintro e w3 ⟨rfl, rfl⟩
  have R2 := R1.below hb2
  obtain ⟨_, _, _, _, _, _, _, _, _⟩ := R2.four
  go_wp2
  obtain ⟨q0, q1, q2, q3⟩ := R2.reads4C (.int .i64 0) (.int .i64 0) (.int .i64 0) (.int .i64 0)
  exact bodyPost_ret (v := .tuple #[(.agg #[.int .i64 0, .int .i64 0, .int .i64 0, .int .i64 0]), (.int .i64 2)]) (by simp [results, Try.results7, go_sem, q0, q1, q2, q3]) rfl ⟨rfl, by repeat (first | with_reducible exact own_refl _ | with_reducible assumption | with_reducible apply own_alloc | with_reducible apply own_drewN | with_reducible apply own_drew | ((with_reducible refine own_setCell ?_ ?_ _); rotate_left; focus (first | (simp; done) | (simp; omega))) | (with_reducible (refine own_trans ?_ (by assumption))))⟩
theorem al_len (lo : Int) (N : Nat) (k : Nat) : ∃ len, (al lo N k).length = 4 * len := by
  have h1 : ∀ a b c d : Int, ∃ len, (one4 a b c d).length = 4 * len := fun a b c d => by
    unfold one4; split
    · exact ⟨1, rfl⟩
    · exact ⟨0, rfl⟩
  have h2 : ∀ (a b c : Int) (k : Nat), ∃ len, (dl lo a b c k).length = 4 * len := fun a b c k => by
    induction k with
    | zero => exact ⟨0, rfl⟩
    | succ k ih =>
      obtain ⟨x, hx⟩ := ih
      obtain ⟨y, hy⟩ := h1 a b c (lo + k)
      exact ⟨x + y, by rw [dl, List.length_append]; omega⟩
  have h3 : ∀ (a b : Int) (k : Nat), ∃ len, (cl lo N a b k).length = 4 * len := fun a b k => by
    induction k with
    | zero => exact ⟨0, rfl⟩
    | succ k ih =>
      obtain ⟨x, hx⟩ := ih
      obtain ⟨y, hy⟩ := h2 a b (lo + k) N
      exact ⟨x + y, by rw [cl, List.length_append]; omega⟩
  have h4 : ∀ (a : Int) (k : Nat), ∃ len, (bl lo N a k).length = 4 * len := fun a k => by
    induction k with
    | zero => exact ⟨0, rfl⟩
    | succ k ih =>
      obtain ⟨x, hx⟩ := ih
      obtain ⟨y, hy⟩ := h3 a (lo + k) N
      exact ⟨x + y, by rw [bl, List.length_append]; omega⟩
  induction k with
  | zero => exact ⟨0, rfl⟩
  | succ k ih =>
    obtain ⟨x, hx⟩ := ih
    obtain ⟨y, hy⟩ := h4 (lo + k) N
    exact ⟨x + y, by rw [al, List.length_append]; omega⟩
theorem lawFirstConjugator_walk (a b c d e f g h k : Int) (_ : I64 a) (_ : I64 b) (_ : I64 c) (_ : I64 d) (_ : I64 e) (_ : I64 f) (_ : I64 g) (_ : I64 h) (_ : I64 k) (w : World) :
    Calls Try.prog 4 #[(.agg #[.int .i64 a, .int .i64 b, .int .i64 c, .int .i64 d]), (.agg #[.int .i64 e, .int .i64 f, .int .i64 g, .int .i64 h]), (.int .i64 k)] w fun e w' => e = .returned (.bool true) ∧ Below w.heap.size w w' := by
  rcases hm : isM a b c d with _ | _
  · exact lawFirstConjugator_of a b c d e f g h k 0 0 0 0 1 (fun w => specFc_no1 ⟨a, b, c, d⟩ ⟨e, f, g, h⟩ k hm w) (fun w => implFc_no1 ⟨a, b, c, d⟩ ⟨e, f, g, h⟩ k hm w) w
  rcases hn : isM e f g h with _ | _
  · exact lawFirstConjugator_of a b c d e f g h k 0 0 0 0 1 (fun w => specFc_no2 ⟨a, b, c, d⟩ ⟨e, f, g, h⟩ k hm hn w) (fun w => implFc_no2 ⟨a, b, c, d⟩ ⟨e, f, g, h⟩ k hm hn w) w
  by_cases hk : 0 ≤ k ∧ k ≤ 3
  · obtain ⟨N, hN⟩ : ∃ N : Nat, (N : Int) = 2 * k + 1 := ⟨(2 * k + 1).toNat, by omega⟩
    obtain ⟨len, hlen⟩ := al_len (-k) N N
    obtain ⟨r, kd, hF⟩ := FR_ex ⟨a, b, c, d⟩ ⟨e, f, g, h⟩ (al (-k) N N) len
    exact lawFirstConjugator_of a b c d e f g h k r.a r.b r.c r.d kd (fun w => specFc_yes ⟨a, b, c, d⟩ ⟨e, f, g, h⟩ hm hn k hk.1 hk.2 N hN len hlen r kd hF w) (fun w => implFc_yes ⟨a, b, c, d⟩ ⟨e, f, g, h⟩ hm hn k hk.1 hk.2 N hN len hlen r kd hF w) w
  · exact lawFirstConjugator_of a b c d e f g h k 0 0 0 0 2 (fun w => specFc_no3 ⟨a, b, c, d⟩ ⟨e, f, g, h⟩ k hm hn hk w) (fun w => implFc_no3 ⟨a, b, c, d⟩ ⟨e, f, g, h⟩ k hm hn hk w) w
end Go.Proofs.Ytmlbbhhjjepmkaa
