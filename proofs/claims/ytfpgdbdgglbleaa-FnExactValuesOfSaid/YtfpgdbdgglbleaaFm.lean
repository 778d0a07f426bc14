/- Forms of two unknowns: their numbers, the tests of both sides, equality of two. No condition. -/
import Derived.Test.YtfpgdbdgglbleaaA
namespace Go.Proofs.Ytfpgdbdgglbleaa
open Go.ChangeShapes Go.WideShapes Go.ChangeAt Go.RowKit

/-- a number of a form: from -1000000 to 1000000 -/
def FE (x : Int) : Prop := -1000000 ≤ x ∧ x ≤ 1000000
instance (x : Int) : Decidable (FE x) := inferInstanceAs (Decidable (_ ∧ _))
theorem fe_iff {x : Int} : inW x 1000000 = true ↔ FE x := by simp [inW, FE]
theorem fe_iffR {x : Int} : inR x (-1000000) 1000000 = true ↔ FE x := by simp [inR, FE]
/-- three numbers are those of a form -/
def isQ (a b c : Int) : Bool := decide (FE a ∧ FE b ∧ FE c ∧ ¬ (a = 0 ∧ b = 0 ∧ c = 0))
theorem isQ_fe {a b c : Int} (h : isQ a b c = true) : FE a ∧ FE b ∧ FE c ∧ ¬ (a = 0 ∧ b = 0 ∧ c = 0) := of_decide_eq_true h
theorem Box.three {w : World} {g : Nat} {x0 x1 x2 : Value} (h : Box w g [x0, x1, x2]) :
    g < w.heap.size ∧ w.cell? ⟨g, 0, none⟩ = some x0 ∧ w.cell? ⟨g, 1, none⟩ = some x1 ∧ w.cell? ⟨g, 2, none⟩ = some x2 ∧
      w.frozen? ⟨g, 0, none⟩ = false ∧ w.frozen? ⟨g, 1, none⟩ = false ∧ w.frozen? ⟨g, 2, none⟩ = false :=
  ⟨h.1, (h.2 0 _ rfl).1, (h.2 1 _ rfl).1, (h.2 2 _ rfl).1, (h.2 0 _ rfl).2, (h.2 1 _ rfl).2, (h.2 2 _ rfl).2⟩
theorem Box.put3 {w : World} {g : Nat} {x0 x1 x2 : Value} (h : Box w g [x0, x1, x2]) (y0 y1 y2 : Value) :
    Box (((w.setCell ⟨g, 0, none⟩ y0).setCell ⟨g, 1, none⟩ y1).setCell ⟨g, 2, none⟩ y2) g [y0, y1, y2] :=
  ((h.set 0 (by simp) y0).set 1 (by simp) y1).set 2 (by simp) y2

theorem eq_form (a b c e f g : Int) (w : World) : (Op.equalIn 10000 24 (.agg #[.int .i64 a, .int .i64 b, .int .i64 c]) (.agg #[.int .i64 e, .int .i64 f, .int .i64 g])).run Try.prog w = .ok (decide (a = e ∧ b = f ∧ c = g)) w := by
  have u3 := Try.underlying2
  have a3 := Try.isAgg2
  have z3 := Try.sizeOf2
  rw [show (10000 : Nat) = 9999 + 1 from rfl, Op.equalIn]
  simp only [Sem.run_bind, run_underlying Try.underlying24, Result.andThen_ok]
  simp only [Std.Legacy.Range.forIn_eq_forIn_range', Std.Legacy.Range.size, Nat.sub_zero, Nat.add_sub_cancel, Nat.div_one, List.range'_succ, List.range'_zero, List.forIn_cons, List.forIn_nil]
  go_simp
  by_cases h1 : a = e <;> by_cases h2 : b = f <;> by_cases h3 : c = g <;> simp [h1, h2, h3]
theorem eq_form_is (r : Bool) (a b c e f g : Int) (hr : decide (a = e ∧ b = f ∧ c = g) = r) (w : World) : (Op.equalIn 10000 24 (.agg #[.int .i64 a, .int .i64 b, .int .i64 c]) (.agg #[.int .i64 e, .int .i64 f, .int .i64 g])).run Try.prog w = .ok r w := hr ▸ eq_form a b c e f g w

theorem allW3_is (r : Bool) (a b c : Int) (g : Nat) (w : World) (hr : allW [a, b, c] 1000000 = r)
    (h0 : w.cell? ⟨g, 0, none⟩ = some (.int .i64 a)) (h1 : w.cell? ⟨g, 1, none⟩ = some (.int .i64 b)) (h2 : w.cell? ⟨g, 2, none⟩ = some (.int .i64 c)) :
    Calls Try.prog 34 #[.slice (some ⟨g, 0, none⟩) 3 3, .int .i64 1000000] w fun e w' => e = .returned (.bool r) ∧ w = w' := by
  subst hr
  refine allWithin_any [a, b, c] 1000000 (by omega) (by omega) g 0 3 (by simp) w ?_
  intro k hk
  have : k = 0 ∨ k = 1 ∨ k = 2 := by simp at hk; omega
  rcases this with rfl | rfl | rfl <;> simpa

theorem allW3 (a b c : Int) : allW [a, b, c] 1000000 = true ↔ FE a ∧ FE b ∧ FE c := by
  simp [allW, fe_iff]

set_option maxHeartbeats 1000000 in
theorem implIsQ_A (a b c : Int) (h : allW [a, b, c] 1000000 = false) (w : World) :
    Calls Try.prog 13 #[(.agg #[.int .i64 a, .int .i64 b, .int .i64 c])] w fun e w' => e = .returned (.bool false) ∧ Below w.heap.size w w' := by
  have H := Lib.hid h
  clear h
  go_enter Try.func13, Try.ntmps13
  go_wp2_with fail
  refine (allW3_is false _ _ _ _ _ H.out (by simp) (by simp) (by simp)).mono ?_
  rintro e w1 ⟨rfl, rfl⟩
  go_wp2
  go_ret
  exact ⟨rfl, by repeat (first | with_reducible exact own_refl _ | with_reducible assumption | with_reducible apply own_alloc | with_reducible apply own_drewN | with_reducible apply own_drew | ((with_reducible refine own_setCell ?_ ?_ _); rotate_left; focus (first | (simp; done) | (simp; omega))) | (with_reducible (refine own_trans ?_ (by assumption))))⟩
set_option maxHeartbeats 1000000 in
theorem implIsQ_B (a b c : Int) (r : Bool) (h : allW [a, b, c] 1000000 = true) (hr : decide (a = 0 ∧ b = 0 ∧ c = 0) = !r) (w : World) :
    Calls Try.prog 13 #[(.agg #[.int .i64 a, .int .i64 b, .int .i64 c])] w fun e w' => e = .returned (.bool r) ∧ Below w.heap.size w w' := by
  have H := Lib.hid h
  cases r
  all_goals
    have q0 := fun w => eq_form_is _ a b c 0 0 0 hr w
    clear h hr
    go_enter Try.func13, Try.ntmps13
    go_wp2_with fail
    refine (allW3_is true _ _ _ _ _ H.out (by simp) (by simp) (by simp)).mono ?_
    rintro e w1 ⟨rfl, rfl⟩
    go_wp2
    go_ret
    exact ⟨rfl, by repeat (first | with_reducible exact own_refl _ | with_reducible assumption | with_reducible apply own_alloc | with_reducible apply own_drewN | with_reducible apply own_drew | ((with_reducible refine own_setCell ?_ ?_ _); rotate_left; focus (first | (simp; done) | (simp; omega))) | (with_reducible (refine own_trans ?_ (by assumption))))⟩
theorem implIsQ_any (a b c : Int) (w : World) :
    Calls Try.prog 13 #[(.agg #[.int .i64 a, .int .i64 b, .int .i64 c])] w fun e w' => e = .returned (.bool (isQ a b c)) ∧ Below w.heap.size w w' := by
  rcases h : allW [a, b, c] 1000000 with _ | _
  · have : isQ a b c = false := decide_eq_false fun k => by
      have := (allW3 a b c).2 ⟨k.1, k.2.1, k.2.2.1⟩
      rw [h] at this; cases this
    rw [this]
    exact implIsQ_A a b c h w
  · have k := (allW3 a b c).1 h
    refine implIsQ_B a b c _ h ?_ w
    unfold isQ
    by_cases h0 : a = 0 ∧ b = 0 ∧ c = 0 <;> simp [h0, k]
    all_goals (obtain ⟨rfl, rfl, rfl⟩ := h0; simp)
theorem implIsQ_is (r : Bool) (a b c : Int) (h : isQ a b c = r) (w : World) :
    Calls Try.prog 13 #[(.agg #[.int .i64 a, .int .i64 b, .int .i64 c])] w fun e w' => e = .returned (.bool r) ∧ Below w.heap.size w w' := h ▸ implIsQ_any a b c w

set_option maxHeartbeats 1000000 in
theorem l05Is_1 (a b c : Int) (h1 : inR a (-1000000) 1000000 = false) (w : World) :
    Calls Try.prog 33 #[(.agg #[.int .i64 a, .int .i64 b, .int .i64 c])] w fun e w' => e = .returned (.bool false) ∧ Below w.heap.size w w' := by
  go_enter Try.func33, Try.ntmps33
  go_wp2
  refine wp_loop_rounds 4 ?_
  rw [rounds_succ]
  go_wp2_with (go_at_call 37; refine (l01In_any _ _ _ _).mono ?_; rintro e w1 ⟨rfl, rfl⟩)
  go_ret
  exact ⟨rfl, by repeat (first | with_reducible exact own_refl _ | with_reducible assumption | with_reducible apply own_alloc | with_reducible apply own_drewN | with_reducible apply own_drew | ((with_reducible refine own_setCell ?_ ?_ _); rotate_left; focus (first | (simp; done) | (simp; omega))) | (with_reducible (refine own_trans ?_ (by assumption))))⟩
set_option maxHeartbeats 1000000 in
theorem l05Is_2 (a b c : Int) (h1 : inR a (-1000000) 1000000 = true) (h2 : inR b (-1000000) 1000000 = false) (w : World) :
    Calls Try.prog 33 #[(.agg #[.int .i64 a, .int .i64 b, .int .i64 c])] w fun e w' => e = .returned (.bool false) ∧ Below w.heap.size w w' := by
  go_enter Try.func33, Try.ntmps33
  go_wp2
  refine wp_loop_rounds 4 ?_
  iterate 2
    rw [rounds_succ]
    go_wp2_with (go_at_call 37; refine (l01In_any _ _ _ _).mono ?_; rintro e w1 ⟨rfl, rfl⟩)
  go_ret
  exact ⟨rfl, by repeat (first | with_reducible exact own_refl _ | with_reducible assumption | with_reducible apply own_alloc | with_reducible apply own_drewN | with_reducible apply own_drew | ((with_reducible refine own_setCell ?_ ?_ _); rotate_left; focus (first | (simp; done) | (simp; omega))) | (with_reducible (refine own_trans ?_ (by assumption))))⟩
set_option maxHeartbeats 1000000 in
theorem l05Is_3 (a b c : Int) (h1 : inR a (-1000000) 1000000 = true) (h2 : inR b (-1000000) 1000000 = true) (h3 : inR c (-1000000) 1000000 = false) (w : World) :
    Calls Try.prog 33 #[(.agg #[.int .i64 a, .int .i64 b, .int .i64 c])] w fun e w' => e = .returned (.bool false) ∧ Below w.heap.size w w' := by
  go_enter Try.func33, Try.ntmps33
  go_wp2
  refine wp_loop_rounds 4 ?_
  iterate 3
    rw [rounds_succ]
    go_wp2_with (go_at_call 37; refine (l01In_any _ _ _ _).mono ?_; rintro e w1 ⟨rfl, rfl⟩)
  go_ret
  exact ⟨rfl, by repeat (first | with_reducible exact own_refl _ | with_reducible assumption | with_reducible apply own_alloc | with_reducible apply own_drewN | with_reducible apply own_drew | ((with_reducible refine own_setCell ?_ ?_ _); rotate_left; focus (first | (simp; done) | (simp; omega))) | (with_reducible (refine own_trans ?_ (by assumption))))⟩
set_option maxHeartbeats 1000000 in
theorem l05Is_4 (a b c : Int) (r : Bool) (h1 : inR a (-1000000) 1000000 = true) (h2 : inR b (-1000000) 1000000 = true) (h3 : inR c (-1000000) 1000000 = true) (hr : decide (a = 0 ∧ b = 0 ∧ c = 0) = !r) (w : World) :
    Calls Try.prog 33 #[(.agg #[.int .i64 a, .int .i64 b, .int .i64 c])] w fun e w' => e = .returned (.bool r) ∧ Below w.heap.size w w' := by
  cases r
  all_goals
    have q0 := fun w => eq_form_is _ a b c 0 0 0 hr w
    clear hr
    go_enter Try.func33, Try.ntmps33
    go_wp2
    refine wp_loop_rounds 4 ?_
    iterate 4
      rw [rounds_succ]
      go_wp2_with (go_at_call 37; refine (l01In_any _ _ _ _).mono ?_; rintro e w1 ⟨rfl, rfl⟩)
    go_ret
    exact ⟨rfl, by repeat (first | with_reducible exact own_refl _ | with_reducible assumption | with_reducible apply own_alloc | with_reducible apply own_drewN | with_reducible apply own_drew | ((with_reducible refine own_setCell ?_ ?_ _); rotate_left; focus (first | (simp; done) | (simp; omega))) | (with_reducible (refine own_trans ?_ (by assumption))))⟩
theorem l05Is_any (a b c : Int) (w : World) :
    Calls Try.prog 33 #[(.agg #[.int .i64 a, .int .i64 b, .int .i64 c])] w fun e w' => e = .returned (.bool (isQ a b c)) ∧ Below w.heap.size w w' := by
  have no : ∀ {x : Int}, inR x (-1000000) 1000000 = false → ¬ FE x := fun h k => by rw [fe_iffR.2 k] at h; cases h
  rcases h1 : inR a (-1000000) 1000000 with _ | _
  · rw [show isQ a b c = false from decide_eq_false fun k => no h1 k.1]; exact l05Is_1 a b c h1 w
  rcases h2 : inR b (-1000000) 1000000 with _ | _
  · rw [show isQ a b c = false from decide_eq_false fun k => no h2 k.2.1]; exact l05Is_2 a b c h1 h2 w
  rcases h3 : inR c (-1000000) 1000000 with _ | _
  · rw [show isQ a b c = false from decide_eq_false fun k => no h3 k.2.2.1]; exact l05Is_3 a b c h1 h2 h3 w
  refine l05Is_4 a b c _ h1 h2 h3 ?_ w
  have k1 := fe_iffR.1 h1
  have k2 := fe_iffR.1 h2
  have k3 := fe_iffR.1 h3
  unfold isQ
  by_cases h0 : a = 0 ∧ b = 0 ∧ c = 0 <;> simp [h0, k1, k2, k3]
  all_goals (obtain ⟨rfl, rfl, rfl⟩ := h0; simp)
theorem l05Is_is (r : Bool) (a b c : Int) (h : isQ a b c = r) (w : World) :
    Calls Try.prog 33 #[(.agg #[.int .i64 a, .int .i64 b, .int .i64 c])] w fun e w' => e = .returned (.bool r) ∧ Below w.heap.size w w' := h ▸ l05Is_any a b c w

set_option maxHeartbeats 400000 in
theorem toForm_any (a b c : Int) (w : World) :
    Calls Try.prog 12 #[(.agg #[.int .i64 a, .int .i64 b, .int .i64 c])] w fun e w' => e = .returned (.agg #[.int .i64 a, .int .i64 b, .int .i64 c]) ∧ Below w.heap.size w w' := by
  go_enter Try.func12, Try.ntmps12
  go_wp2
  go_rounds 4
  exact bodyPost_ret (v := (.agg #[.int .i64 a, .int .i64 b, .int .i64 c])) (by simp [results, Try.results12, go_sem]) rfl ⟨rfl, by repeat (first | exact own_refl _ | apply own_alloc)⟩
set_option maxHeartbeats 400000 in
theorem eqForm_same (a b c : Int) (w : World) :
    Calls Try.prog 21 #[(.agg #[.int .i64 a, .int .i64 b, .int .i64 c]), (.agg #[.int .i64 a, .int .i64 b, .int .i64 c])] w fun e w' => e = .returned (.bool true) ∧ Below w.heap.size w w' := by
  go_enter Try.func21, Try.ntmps21
  go_wp2
  refine wp_loop_rounds 4 ?_
  iterate 3
    rw [rounds_succ]
    go_wp2
    go_quiet (fail)
    go_wp2
  rw [rounds_succ]
  go_wp2
  go_ret
  exact ⟨rfl, by repeat (first | with_reducible exact own_refl _ | with_reducible assumption | with_reducible apply own_alloc | with_reducible apply own_drewN | with_reducible apply own_drew | ((with_reducible refine own_setCell ?_ ?_ _); rotate_left; focus (first | (simp; done) | (simp; omega))) | (with_reducible (refine own_trans ?_ (by assumption))))⟩
end Go.Proofs.Ytfpgdbdgglbleaa
