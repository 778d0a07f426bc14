/- IsTriple: contracts of both sides. No condition. -/
import Derived.Test.YtafmfdhogoheaaaDoorTri
namespace Go.Proofs.YtafmfdhogoheaaaDoor
open Go.ChangeShapes Go.WideShapes Go.ChangeAt Go.RowKit

theorem least_any (a b c : Int) (w : World) : Calls Tryd.prog 72 #[(.agg #[.int .i64 a, .int .i64 b, .int .i64 c])] w fun e w' => e = .returned (.int .i64 a) ∧ Below w.heap.size w w' := by
  go_enter Tryd.func72, Tryd.ntmps72
  go_wp2
  go_ret
  exact ⟨rfl, by repeat (first | with_reducible exact own_refl _ | with_reducible assumption | with_reducible apply own_alloc | with_reducible apply own_drewN | with_reducible apply own_drew | ((with_reducible refine own_setCell ?_ ?_ _); rotate_left; focus (first | (simp; done) | (simp; omega))) | (with_reducible (refine own_trans ?_ (by assumption))))⟩
theorem middle_any (a b c : Int) (w : World) : Calls Tryd.prog 73 #[(.agg #[.int .i64 a, .int .i64 b, .int .i64 c])] w fun e w' => e = .returned (.int .i64 b) ∧ Below w.heap.size w w' := by
  go_enter Tryd.func73, Tryd.ntmps73
  go_wp2
  go_ret
  exact ⟨rfl, by repeat (first | with_reducible exact own_refl _ | with_reducible assumption | with_reducible apply own_alloc | with_reducible apply own_drewN | with_reducible apply own_drew | ((with_reducible refine own_setCell ?_ ?_ _); rotate_left; focus (first | (simp; done) | (simp; omega))) | (with_reducible (refine own_trans ?_ (by assumption))))⟩
theorem greatest_any (a b c : Int) (w : World) : Calls Tryd.prog 57 #[(.agg #[.int .i64 a, .int .i64 b, .int .i64 c])] w fun e w' => e = .returned (.int .i64 c) ∧ Below w.heap.size w w' := by
  go_enter Tryd.func57, Tryd.ntmps57
  go_wp2
  go_ret
  exact ⟨rfl, by repeat (first | with_reducible exact own_refl _ | with_reducible assumption | with_reducible apply own_alloc | with_reducible apply own_drewN | with_reducible apply own_drew | ((with_reducible refine own_setCell ?_ ?_ _); rotate_left; focus (first | (simp; done) | (simp; omega))) | (with_reducible (refine own_trans ?_ (by assumption))))⟩

theorem isT_no {a b c : Int} (h : a < 1 ∨ b < a ∨ c < b ∨ 1000000000 < c) : isT a b c = false := decide_eq_false fun k => by omega
/-- the test by a rest and a quotient -/
theorem Tt.quot (a S P : Int) (h1 : 1 ≤ a) (h : S % (3 * a) = 0) : (S / (3 * a) == P) = decide (S = 3 * a * P) := by
  have := Int.mul_ediv_add_emod S (3 * a)
  rw [h, Int.add_zero] at this
  rw [← this]
  generalize S / (3 * a) = q
  rw [Int.mul_ediv_cancel_left _ (by omega)]
  by_cases e : q = P
  · subst e; simp
  · rw [decide_eq_false (fun k => e (Int.eq_of_mul_eq_mul_left (by omega) k))]; simpa using e
theorem Tt.quot_no (a S P : Int) (h : ¬ S % (3 * a) = 0) : decide (S = 3 * a * P) = false := decide_eq_false fun e => h (by rw [e, Int.mul_emod_right])
theorem Tt.sqs (a b c : Int) (h1 : 1 ≤ a) (h2 : a ≤ b) (h3 : b ≤ c) (h4 : c ≤ 1000000000) :
    0 ≤ a * a ∧ a * a ≤ 1000000000000000000 ∧ 0 ≤ b * b ∧ b * b ≤ 1000000000000000000 ∧ 0 ≤ c * c ∧ c * c ≤ 1000000000000000000 ∧ 0 ≤ b * c ∧ b * c ≤ 1000000000000000000 ∧ 0 ≤ a * b ∧ a * b ≤ 1000000000000000000 := by
  have ea : Ent a := by constructor <;> omega
  have eb : Ent b := by constructor <;> omega
  have ec : Ent c := by constructor <;> omega
  exact ⟨Int.mul_nonneg (by omega) (by omega), (ent_mul ea ea).2, Int.mul_nonneg (by omega) (by omega), (ent_mul eb eb).2, Int.mul_nonneg (by omega) (by omega), (ent_mul ec ec).2, Int.mul_nonneg (by omega) (by omega), (ent_mul eb ec).2, Int.mul_nonneg (by omega) (by omega), (ent_mul ea eb).2⟩

set_option maxHeartbeats 4000000 in
theorem implIsT_any (a b c : Int) (w : World) :
    Calls Tryd.prog 25 #[(.agg #[.int .i64 a, .int .i64 b, .int .i64 c])] w fun e w' => e = .returned (.bool (isT a b c)) ∧ Below w.heap.size w w' := by
  go_enter Tryd.func25, Tryd.ntmps25
  go_upto_region 1 with fail
  have T : Below w.heap.size w (w.alloc (.cells #[.int .i64 a, .int .i64 b, .int .i64 c] 36)) := by repeat (first | with_reducible exact own_refl _ | with_reducible assumption | with_reducible apply own_alloc | with_reducible apply own_drewN | with_reducible apply own_drew | ((with_reducible refine own_setCell ?_ ?_ _); rotate_left; focus (first | (simp; done) | (simp; omega))) | (with_reducible (refine own_trans ?_ (by assumption))))
  have BA : Box (w.alloc (.cells #[.int .i64 a, .int .i64 b, .int .i64 c] 36)) w.heap.size [.int .i64 a, .int .i64 b, .int .i64 c] := Box.new _ _ _
  go_cut [3, 4, 5] (fun s3 s4 s5 wx => s3 = (.int .i64 a) ∧ s4 = (.int .i64 b) ∧ s5 = (.int .i64 c) ∧ Below w.heap.size w wx)
  case first =>
    go_region_held3 (fun w' => w'.cell? ⟨w.heap.size, 0, none⟩ = some (.int .i64 a) ∧ w'.cell? ⟨w.heap.size, 1, none⟩ = some (.int .i64 b) ∧ w'.cell? ⟨w.heap.size, 2, none⟩ = some (.int .i64 c)) (go_keep)
      (first
      | (go_at_call 72; refine (least_any _ _ _ _).mono ?_; rintro e w1 ⟨rfl, hb1⟩; have T := (by first | exact own_trans T hb1 | exact own_trans (own_drew T) hb1 : Below w.heap.size w w1); have BA := Box.below (by first | exact BA | exact Box.drew BA) hb1; obtain ⟨_, _, _, _, _, _, _⟩ := BA.three)
      | (go_at_call 73; refine (middle_any _ _ _ _).mono ?_; rintro e w1 ⟨rfl, hb1⟩; have T := (by first | exact own_trans T hb1 | exact own_trans (own_drew T) hb1 : Below w.heap.size w w1); have BA := Box.below (by first | exact BA | exact Box.drew BA) hb1; obtain ⟨_, _, _, _, _, _, _⟩ := BA.three)
      | (go_at_call 57; refine (greatest_any _ _ _ _).mono ?_; rintro e w1 ⟨rfl, hb1⟩; have T := (by first | exact own_trans T hb1 | exact own_trans (own_drew T) hb1 : Below w.heap.size w w1); have BA := Box.below (by first | exact BA | exact Box.drew BA) hb1; obtain ⟨_, _, _, _, _, _, _⟩ := BA.three))
    all_goals
      go_wp2_with fail
      go_meet
      exact ⟨rfl, rfl, rfl, T⟩
  case rest =>
    obtain ⟨rfl, rfl, rfl, T⟩ := hcut
    by_cases h1 : a < 1
    · have HN := Lib.hid (isT_no (a := a) (b := b) (c := c) (.inl h1))
      go_wp2
      go_ret
      exact ⟨by rw [HN.out]; rfl, T⟩
    by_cases h2 : b < a
    · have HN := Lib.hid (isT_no (a := a) (b := b) (c := c) (.inr (.inl h2)))
      go_wp2
      go_ret
      exact ⟨by rw [HN.out]; rfl, T⟩
    by_cases h3 : c < b
    · have HN := Lib.hid (isT_no (a := a) (b := b) (c := c) (.inr (.inr (.inl h3))))
      go_wp2
      go_ret
      exact ⟨by rw [HN.out]; rfl, T⟩
    by_cases h4 : 1000000000 < c
    · have HN := Lib.hid (isT_no (a := a) (b := b) (c := c) (.inr (.inr (.inr h4))))
      go_wp2
      go_ret
      exact ⟨by rw [HN.out]; rfl, T⟩
    obtain ⟨_, _, _, _, _, _, _, _, _, _⟩ := Tt.sqs a b c (by omega) (by omega) (by omega) (by omega)
    have q1 : IntKind.i64.wrap (a * a) = a * a := IntWalk.i64_in _ (by omega)
    have q2 : IntKind.i64.wrap (b * b) = b * b := IntWalk.i64_in _ (by omega)
    have q3 : IntKind.i64.wrap (c * c) = c * c := IntWalk.i64_in _ (by omega)
    have q4 : IntKind.i64.wrap (a * a + b * b) = a * a + b * b := IntWalk.i64_in _ (by omega)
    have q5 : IntKind.i64.wrap (a * a + b * b + c * c) = a * a + b * b + c * c := IntWalk.i64_in _ (by omega)
    have q6 : IntKind.i64.wrap (3 * a) = 3 * a := IntWalk.i64_in _ (by omega)
    have q7 : IntKind.i64.wrap (b * c) = b * c := IntWalk.i64_in _ (by omega)
    have q8 : ¬ 3 * a = 0 := by omega
    have HI : Hid (isT a b c = decide (a * a + b * b + c * c = 3 * a * (b * c))) := Lib.hid (by
      unfold isT
      congr 1
      simp only [eq_iff_iff]
      rw [show 3 * a * (b * c) = 3 * a * b * c by grind]
      exact ⟨fun k => k.2.2.2.2, fun k => ⟨by omega, by omega, by omega, by omega, k⟩⟩)
    by_cases hm : (a * a + b * b + c * c) % (3 * a) = 0
    · have HQ := Lib.hid (Tt.quot a (a * a + b * b + c * c) (b * c) (by omega) hm)
      go_wp2
      go_ret
      exact ⟨by rw [HI.out, ← HQ.out]; rfl, T⟩
    · have HQ := Lib.hid (Tt.quot_no a (a * a + b * b + c * c) (b * c) hm)
      go_wp2
      go_ret
      exact ⟨by rw [HI.out, HQ.out]; rfl, T⟩

theorem Tt.big (a b c : Int) (_h1 : 1 ≤ a) (_h2 : a ≤ b) (_h3 : b ≤ c) (_h4 : c ≤ 1000000000) (hb : 1 < b) (h : 3 * c / b < a) : isT a b c = false := decide_eq_false fun k => by
  have h5 := Tt.bound a b c k.1 k.2.1 k.2.2.1 k.2.2.2.2
  have h6 := Int.lt_mul_of_ediv_lt (a := 3 * c) (b := a) (c := b) (by omega) h
  omega
/-- where the quotient isn't too small, the products are small -/
theorem Tt.low (a b c : Int) (h1 : 1 ≤ a) (h2 : a ≤ b) (h3 : b ≤ c) (h4 : c ≤ 1000000000) (h : 1 < b → ¬ 3 * c / b < a) : 0 ≤ a * b ∧ a * b ≤ 3 * c ∧ 0 ≤ a * b * c ∧ a * b * c ≤ 3000000000000000000 := by
  have h5 : 0 ≤ a * b := Int.mul_nonneg (by omega) (by omega)
  have h6 : a * b ≤ 3 * c := by
    by_cases hb : 1 < b
    · exact Int.mul_le_of_le_ediv (by omega) (by have := h hb; omega)
    · have : b = 1 := by omega
      have : a = 1 := by omega
      subst a b
      omega
  have h7 : a * b * c ≤ 3000000000 * 1000000000 := Int.mul_le_mul (by omega) h4 (by omega) (by omega)
  exact ⟨h5, h6, Int.mul_nonneg h5 (by omega), by omega⟩
set_option maxHeartbeats 4000000 in
theorem specIsT_any (a b c : Int) (w : World) :
    Calls Tryd.prog 63 #[(.agg #[.int .i64 a, .int .i64 b, .int .i64 c])] w fun e w' => e = .returned (.bool (isT a b c)) ∧ Below w.heap.size w w' := by
  go_enter Tryd.func63, Tryd.ntmps63
  go_wp2_with fail
  refine (l01In_is _ a 1 b rfl _).mono ?_
  rintro e w1 ⟨rfl, rfl⟩
  by_cases h1 : 1 ≤ a ∧ a ≤ b
  · have r1 : inR a 1 b = true := by simp [inR, h1]
    by_cases h3 : c < b
    · have HN := Lib.hid (isT_no (a := a) (b := b) (c := c) (.inr (.inr (.inl h3))))
      go_wp2
      go_ret
      exact ⟨by rw [HN.out]; rfl, by repeat (first | with_reducible exact own_refl _ | with_reducible assumption | with_reducible apply own_alloc | with_reducible apply own_drewN | with_reducible apply own_drew | ((with_reducible refine own_setCell ?_ ?_ _); rotate_left; focus (first | (simp; done) | (simp; omega))) | (with_reducible (refine own_trans ?_ (by assumption))))⟩
    by_cases h4 : 1000000000 < c
    · have HN := Lib.hid (isT_no (a := a) (b := b) (c := c) (.inr (.inr (.inr h4))))
      go_wp2
      go_ret
      exact ⟨by rw [HN.out]; rfl, by repeat (first | with_reducible exact own_refl _ | with_reducible assumption | with_reducible apply own_alloc | with_reducible apply own_drewN | with_reducible apply own_drew | ((with_reducible refine own_setCell ?_ ?_ _); rotate_left; focus (first | (simp; done) | (simp; omega))) | (with_reducible (refine own_trans ?_ (by assumption))))⟩
    have q0 : IntKind.i64.wrap (3 * c) = 3 * c := IntWalk.i64_in _ (by omega)
    have HI : Hid (isT a b c = (a * a + b * b + c * c == 3 * a * b * c)) := Lib.hid (by
      unfold isT
      by_cases e : a * a + b * b + c * c = 3 * a * b * c
      · rw [decide_eq_true ⟨by omega, by omega, by omega, by omega, e⟩]; simpa using e
      · rw [decide_eq_false (fun k => e k.2.2.2.2)]; symm; simpa using e)
    obtain ⟨_, _, _, _, _, _, _, _, _, _⟩ := Tt.sqs a b c (by omega) (by omega) (by omega) (by omega)
    have q1 : IntKind.i64.wrap (a * a) = a * a := IntWalk.i64_in _ (by omega)
    have q2 : IntKind.i64.wrap (b * b) = b * b := IntWalk.i64_in _ (by omega)
    have q3 : IntKind.i64.wrap (c * c) = c * c := IntWalk.i64_in _ (by omega)
    have q4 : IntKind.i64.wrap (a * a + b * b) = a * a + b * b := IntWalk.i64_in _ (by omega)
    have q5 : IntKind.i64.wrap (a * a + b * b + c * c) = a * a + b * b + c * c := IntWalk.i64_in _ (by omega)
    have q6 : IntKind.i64.wrap (3 * a) = 3 * a := IntWalk.i64_in _ (by omega)
    by_cases hq : 1 < b → ¬ 3 * c / b < a
    · obtain ⟨l1, l2, l3, l4⟩ := Tt.low a b c (by omega) (by omega) (by omega) (by omega) hq
      have q7 : IntKind.i64.wrap (3 * a * b) = 3 * a * b := IntWalk.i64_in (3 * a * b) (by have : 3 * a * b = 3 * (a * b) := (by grind); omega)
      have q8 : IntKind.i64.wrap (3 * a * b * c) = 3 * a * b * c := IntWalk.i64_in (3 * a * b * c) (by have : 3 * a * b * c = 3 * (a * b * c) := (by grind); omega)
      by_cases hb : 1 < b
      · have z : ¬ b = 0 := by omega
        have hq' := hq hb
        clear hq
        go_wp2_with fail
        go_quiet (fail)
        go_wp2
        go_ret
        exact ⟨by rw [HI.out]; rfl, by repeat (first | with_reducible exact own_refl _ | with_reducible assumption | with_reducible apply own_alloc | with_reducible apply own_drewN | with_reducible apply own_drew | ((with_reducible refine own_setCell ?_ ?_ _); rotate_left; focus (first | (simp; done) | (simp; omega))) | (with_reducible (refine own_trans ?_ (by assumption))))⟩
      · clear hq
        have hbd : decide (1 < b) = false := by simpa using hb
        go_wp2_with fail
        go_quiet (fail)
        go_wp2
        go_ret
        exact ⟨by rw [HI.out]; rfl, by repeat (first | with_reducible exact own_refl _ | with_reducible assumption | with_reducible apply own_alloc | with_reducible apply own_drewN | with_reducible apply own_drew | ((with_reducible refine own_setCell ?_ ?_ _); rotate_left; focus (first | (simp; done) | (simp; omega))) | (with_reducible (refine own_trans ?_ (by assumption))))⟩
    · have hb : 1 < b := by
        by_cases hb : 1 < b
        · exact hb
        · exact absurd (fun h => absurd h hb) hq
      have hq' : 3 * c / b < a := by
        by_cases h : 3 * c / b < a
        · exact h
        · exact absurd (fun _ => h) hq
      have z : ¬ b = 0 := by omega
      have HN := Lib.hid (Tt.big a b c (by omega) (by omega) (by omega) (by omega) hb hq')
      clear hq
      go_wp2_with fail
      go_quiet (fail)
      go_wp2
      go_ret
      exact ⟨by rw [HN.out]; rfl, by repeat (first | with_reducible exact own_refl _ | with_reducible assumption | with_reducible apply own_alloc | with_reducible apply own_drewN | with_reducible apply own_drew | ((with_reducible refine own_setCell ?_ ?_ _); rotate_left; focus (first | (simp; done) | (simp; omega))) | (with_reducible (refine own_trans ?_ (by assumption))))⟩
  · have r1 : inR a 1 b = false := by simp [inR]; omega
    have HN := Lib.hid (isT_no (a := a) (b := b) (c := c) (by omega))
    go_wp2
    go_ret
    exact ⟨by rw [HN.out]; rfl, by repeat (first | with_reducible exact own_refl _ | with_reducible assumption | with_reducible apply own_alloc | with_reducible apply own_drewN | with_reducible apply own_drew | ((with_reducible refine own_setCell ?_ ?_ _); rotate_left; focus (first | (simp; done) | (simp; omega))) | (with_reducible (refine own_trans ?_ (by assumption))))⟩
end Go.Proofs.YtafmfdhogoheaaaDoor
