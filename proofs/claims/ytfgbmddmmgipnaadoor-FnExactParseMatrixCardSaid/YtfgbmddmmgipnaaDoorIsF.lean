/- Contracts of IsFraction. -/
import Derived.Test.YtfgbmddmmgipnaaDoorA
import Derived.Test.YtfgbmddmmgipnaaDoorLow
namespace Go.Proofs.YtfgbmddmmgipnaaDoor
open Go.ChangeShapes Go.WideShapes Go.ChangeAt Go.RowKit

/-- two numbers are those of a fraction -/
def isF (p q : Int) : Bool := decide (Ent p ∧ 0 ≤ q ∧ q ≤ 1000000000 ∧ Int.gcd p q = 1 ∧ (0 < q ∨ p = 1))
theorem ent_mid' {x : Int} (h : Ent x) : Mid x := by unfold Ent at h; unfold Mid; omega

theorem eq_fr (a b e f : Int) (w : World) : (Op.equalIn 10000 29 (.agg #[.int .i64 a, .int .i64 b]) (.agg #[.int .i64 e, .int .i64 f])).run Tryd.prog w = .ok (decide (a = e ∧ b = f)) w := by
  have u3 := Tryd.underlying2
  have a3 := Tryd.isAgg2
  have z3 := Tryd.sizeOf2
  rw [show (10000 : Nat) = 9999 + 1 from rfl, Op.equalIn]
  simp only [Sem.run_bind, run_underlying Tryd.underlying29, Result.andThen_ok]
  simp only [Std.Legacy.Range.forIn_eq_forIn_range', Std.Legacy.Range.size, Nat.sub_zero, Nat.add_sub_cancel, Nat.div_one, List.range'_succ, List.range'_zero, List.forIn_cons, List.forIn_nil]
  go_simp
  by_cases h1 : a = e <;> by_cases h2 : b = f <;> simp [h1, h2]
theorem eq_fr_is (r : Bool) (a b e f : Int) (hr : decide (a = e ∧ b = f) = r) (w : World) : (Op.equalIn 10000 29 (.agg #[.int .i64 a, .int .i64 b]) (.agg #[.int .i64 e, .int .i64 f])).run Tryd.prog w = .ok r w := hr ▸ eq_fr a b e f w

theorem allW2_is (r : Bool) (a b : Int) (g : Nat) (w : World) (hr : allW [a, b] 1000000000 = r)
    (h0 : w.cell? ⟨g, 0, none⟩ = some (.int .i64 a)) (h1 : w.cell? ⟨g, 1, none⟩ = some (.int .i64 b)) :
    Calls Tryd.prog 29 #[.slice (some ⟨g, 0, none⟩) 2 2, .int .i64 1000000000] w fun e w' => e = .returned (.bool r) ∧ w = w' := by
  subst hr
  refine allWithin_any [a, b] 1000000000 (by omega) (by omega) g 0 2 (by simp) w ?_
  intro k hk
  have : k = 0 ∨ k = 1 := by simp at hk; omega
  rcases this with rfl | rfl <;> simpa

/-- In lowest terms: with the divisor 1, and the sign with the first number. -/
theorem low_iff {p q : Int} (h : ¬ (p = 0 ∧ q = 0)) (hp : Mid p) (hq : Mid q) : (lowP p q = p ∧ lowQ p q = q) ↔ (Int.gcd p q = 1 ∧ 0 ≤ q ∧ (0 < q ∨ p = 1)) := by
  obtain ⟨g1, g2⟩ := gcd_facts h hp hq
  unfold lowP lowQ dv
  constructor
  · rintro ⟨h1, h2⟩
    by_cases hs : q < 0 ∨ (q = 0 ∧ p < 0)
    · rw [if_pos hs] at h1 h2
      rw [Int.tdiv_neg] at h1 h2
      rcases hs with hs | ⟨hs, hs'⟩
      · exfalso
        have : 0 ≤ -q.tdiv (Int.gcd p q) := by
          rw [← Int.neg_tdiv]
          exact Int.tdiv_nonneg (by omega) (by omega)
        omega
      · exfalso
        have : 0 ≤ -p.tdiv (Int.gcd p q) := by
          rw [← Int.neg_tdiv]
          exact Int.tdiv_nonneg (by omega) (by omega)
        omega
    · rw [if_neg hs] at h1 h2
      have hq0 : 0 ≤ q := by omega
      have key : ∀ x : Int, x ≠ 0 → x.tdiv (Int.gcd p q) = x → Int.gcd p q = 1 := by
        intro x hx he
        have h3 : (x.tdiv (Int.gcd p q)).natAbs = x.natAbs / Int.gcd p q := Int.natAbs_tdiv x _
        rw [he] at h3
        rcases Nat.lt_or_ge 1 (Int.gcd p q) with h4 | h4
        · have := Nat.div_lt_self (show 0 < x.natAbs by omega) h4
          omega
        · omega
      by_cases hz : q = 0
      · have hp0 : p ≠ 0 := fun e => h ⟨e, hz⟩
        have hg := key p hp0 h1
        refine ⟨hg, hq0, .inr ?_⟩
        rw [hz, Int.gcd_zero_right] at hg
        omega
      · exact ⟨key q hz h2, hq0, .inl (by omega)⟩
  · rintro ⟨h1, h2, h3⟩
    rw [if_neg (by omega), h1]
    simp
theorem isF_iff {p q : Int} (hp : Ent p) (hq : Ent q) (h : ¬ (p = 0 ∧ q = 0)) : isF p q = decide (lowP p q = p ∧ lowQ p q = q) := by
  unfold isF
  have := low_iff h (ent_mid' hp) (ent_mid' hq)
  rw [Bool.eq_iff_iff, decide_eq_true_iff, decide_eq_true_iff, this]
  unfold Ent at hp hq
  unfold Ent
  omega

set_option maxHeartbeats 1000000 in
theorem implIsF_A (p q : Int) (h : allW [p, q] 1000000000 = false) (w : World) :
    Calls Tryd.prog 19 #[(.agg #[.int .i64 p, .int .i64 q])] w fun e w' => e = .returned (.bool false) ∧ Below w.heap.size w w' := by
  have H := Lib.hid h
  clear h
  go_enter Tryd.func19, Tryd.ntmps19
  go_wp2_with fail
  refine (allW2_is false _ _ _ _ H.out (by simp) (by simp)).mono ?_
  rintro e w1 ⟨rfl, rfl⟩
  go_wp2
  go_ret
  exact ⟨rfl, by repeat (first | with_reducible exact own_refl _ | with_reducible assumption | with_reducible apply own_alloc | with_reducible apply own_drewN | with_reducible apply own_drew | ((with_reducible refine own_setCell ?_ ?_ _); rotate_left; focus (first | (simp; done) | (simp; omega))) | (with_reducible (refine own_trans ?_ (by assumption))))⟩
set_option maxHeartbeats 1000000 in
theorem implIsF_B (w : World) :
    Calls Tryd.prog 19 #[(.agg #[.int .i64 0, .int .i64 0])] w fun e w' => e = .returned (.bool false) ∧ Below w.heap.size w w' := by
  have H := Lib.hid (show allW [0, 0] 1000000000 = true by decide)
  have q0 := fun w => eq_fr_is true 0 0 0 0 (by decide) w
  go_enter Tryd.func19, Tryd.ntmps19
  go_wp2_with fail
  refine (allW2_is true _ _ _ _ H.out (by simp) (by simp)).mono ?_
  rintro e w1 ⟨rfl, rfl⟩
  go_wp2
  go_ret
  exact ⟨rfl, by repeat (first | with_reducible exact own_refl _ | with_reducible assumption | with_reducible apply own_alloc | with_reducible apply own_drewN | with_reducible apply own_drew | ((with_reducible refine own_setCell ?_ ?_ _); rotate_left; focus (first | (simp; done) | (simp; omega))) | (with_reducible (refine own_trans ?_ (by assumption))))⟩
set_option maxHeartbeats 1000000 in
theorem implIsF_C (p q : Int) (r : Bool) (h : allW [p, q] 1000000000 = true) (mp : Mid p) (mq : Mid q) (h0 : ¬ (p = 0 ∧ q = 0)) (hr : decide (lowP p q = p ∧ lowQ p q = q) = r) (w : World) :
    Calls Tryd.prog 19 #[(.agg #[.int .i64 p, .int .i64 q])] w fun e w' => e = .returned (.bool r) ∧ Below w.heap.size w w' := by
  have H := Lib.hid h
  have H0 := Lib.hid h0
  have q0 := fun w => eq_fr_is false p q 0 0 (decide_eq_false h0) w
  have q1 := fun w => eq_fr_is r (lowP p q) (lowQ p q) p q hr w
  clear h h0 hr
  go_enter Tryd.func19, Tryd.ntmps19
  go_wp2_with fail
  refine (allW2_is true _ _ _ _ H.out (by simp) (by simp)).mono ?_
  rintro e w1 ⟨rfl, rfl⟩
  go_upto_region 3 with fail
  have BA : Box (w.alloc (.cells #[.int .i64 p, .int .i64 q] 29)) w.heap.size [.int .i64 p, .int .i64 q] := Box.new _ _ _
  have T : Below w.heap.size w (w.alloc (.cells #[.int .i64 p, .int .i64 q] 29)) := own_alloc (own_refl _) _
  go_cut [2] (fun s wx => s = .bool r ∧ Below w.heap.size w wx)
  case first =>
    go_region_held3 (fun w' => w'.cell? ⟨w.heap.size, 0, none⟩ = some (.int .i64 p) ∧ w'.cell? ⟨w.heap.size, 1, none⟩ = some (.int .i64 q)) (go_keep)
      (first
        | (go_at_call 31; refine (implLow_any _ _ mp mq H0.out _).mono ?_; rintro e w2 ⟨rfl, hb2⟩; have T := (by first | exact own_trans T hb2 | exact own_trans (own_drew T) hb2 : Below w.heap.size w w2); have BA := Box.below (by first | exact BA | exact Box.drew BA) hb2; obtain ⟨_, _, _, _, _⟩ := BA.two))
    all_goals
      go_wp2_with fail
      go_meet
      exact ⟨rfl, T⟩
  case rest =>
    obtain ⟨rfl, T⟩ := hcut
    go_wp2
    go_ret
    exact ⟨rfl, T⟩
theorem implIsF_any (p q : Int) (w : World) :
    Calls Tryd.prog 19 #[(.agg #[.int .i64 p, .int .i64 q])] w fun e w' => e = .returned (.bool (isF p q)) ∧ Below w.heap.size w w' := by
  rcases h : allW [p, q] 1000000000 with _ | _
  · have : isF p q = false := by
      refine decide_eq_false ?_
      rintro ⟨h1, h2, h3, _⟩
      have : allW [p, q] 1000000000 = true := by simp [allW, ent_iff, h1]; unfold Ent; omega
      rw [h] at this; cases this
    rw [this]
    exact implIsF_A p q h w
  · have he : Ent p ∧ Ent q := by simpa [allW, ent_iff] using h
    by_cases h0 : p = 0 ∧ q = 0
    · obtain ⟨rfl, rfl⟩ := h0
      have : isF 0 0 = false := by decide
      rw [this]
      exact implIsF_B w
    · rw [isF_iff he.1 he.2 h0]
      exact implIsF_C p q _ h (ent_mid' he.1) (ent_mid' he.2) h0 rfl w

set_option maxHeartbeats 1000000 in
theorem specIsF_3 (p q g : Int) (mp : Mid p) (mq : Mid q) (hg : (Int.gcd p q : Int) = g) (h1 : inW p 1000000000 = true) (h2 : inR q 0 1000000000 = true) (h3 : (g == 1) = false) (w : World) :
    Calls Tryd.prog 30 #[(.agg #[.int .i64 p, .int .i64 q])] w fun e w' => e = .returned (.bool false) ∧ Below w.heap.size w w' := by
  have HG := Lib.hid hg
  clear hg
  go_enter Tryd.func30, Tryd.ntmps30
  go_wp2_with (first | (go_at_call 32; refine (l01Entry_any _ _).mono ?_; rintro e w1 ⟨rfl, rfl⟩) | (go_at_call 51; refine (l01In_any _ _ _ _).mono ?_; rintro e w1 ⟨rfl, rfl⟩) | (go_at_call 52; refine (l01Gcd_is g _ _ HG.out mp mq _).mono ?_; rintro e w1 ⟨rfl, rfl⟩))
  go_ret
  exact ⟨rfl, own_alloc (own_refl _) _⟩

set_option maxHeartbeats 1000000 in
theorem specIsF_4 (p q g : Int) (mp : Mid p) (mq : Mid q) (hg : (Int.gcd p q : Int) = g) (h1 : inW p 1000000000 = true) (h2 : inR q 0 1000000000 = true) (h3 : (g == 1) = true) (h4 : 0 < q) (w : World) :
    Calls Tryd.prog 30 #[(.agg #[.int .i64 p, .int .i64 q])] w fun e w' => e = .returned (.bool true) ∧ Below w.heap.size w w' := by
  have HG := Lib.hid hg
  clear hg
  go_enter Tryd.func30, Tryd.ntmps30
  go_wp2_with (first | (go_at_call 32; refine (l01Entry_any _ _).mono ?_; rintro e w1 ⟨rfl, rfl⟩) | (go_at_call 51; refine (l01In_any _ _ _ _).mono ?_; rintro e w1 ⟨rfl, rfl⟩) | (go_at_call 52; refine (l01Gcd_is g _ _ HG.out mp mq _).mono ?_; rintro e w1 ⟨rfl, rfl⟩))
  go_ret
  exact ⟨rfl, own_alloc (own_refl _) _⟩

set_option maxHeartbeats 1000000 in
theorem specIsF_5 (p q g : Int) (mp : Mid p) (mq : Mid q) (hg : (Int.gcd p q : Int) = g) (h1 : inW p 1000000000 = true) (h2 : inR q 0 1000000000 = true) (h3 : (g == 1) = true) (h4 : ¬ 0 < q) (h5 : (p == 1) = true) (w : World) :
    Calls Tryd.prog 30 #[(.agg #[.int .i64 p, .int .i64 q])] w fun e w' => e = .returned (.bool true) ∧ Below w.heap.size w w' := by
  have HG := Lib.hid hg
  clear hg
  go_enter Tryd.func30, Tryd.ntmps30
  go_wp2_with (first | (go_at_call 32; refine (l01Entry_any _ _).mono ?_; rintro e w1 ⟨rfl, rfl⟩) | (go_at_call 51; refine (l01In_any _ _ _ _).mono ?_; rintro e w1 ⟨rfl, rfl⟩) | (go_at_call 52; refine (l01Gcd_is g _ _ HG.out mp mq _).mono ?_; rintro e w1 ⟨rfl, rfl⟩))
  go_ret
  exact ⟨rfl, own_alloc (own_refl _) _⟩

set_option maxHeartbeats 1000000 in
theorem specIsF_6 (p q g : Int) (mp : Mid p) (mq : Mid q) (hg : (Int.gcd p q : Int) = g) (h1 : inW p 1000000000 = true) (h2 : inR q 0 1000000000 = true) (h3 : (g == 1) = true) (h4 : ¬ 0 < q) (h5 : (p == 1) = false) (w : World) :
    Calls Tryd.prog 30 #[(.agg #[.int .i64 p, .int .i64 q])] w fun e w' => e = .returned (.bool false) ∧ Below w.heap.size w w' := by
  have HG := Lib.hid hg
  clear hg
  go_enter Tryd.func30, Tryd.ntmps30
  go_wp2_with (first | (go_at_call 32; refine (l01Entry_any _ _).mono ?_; rintro e w1 ⟨rfl, rfl⟩) | (go_at_call 51; refine (l01In_any _ _ _ _).mono ?_; rintro e w1 ⟨rfl, rfl⟩) | (go_at_call 52; refine (l01Gcd_is g _ _ HG.out mp mq _).mono ?_; rintro e w1 ⟨rfl, rfl⟩))
  go_ret
  exact ⟨ret_bool (by simpa using h4), own_alloc (own_refl _) _⟩

theorem specIsF_1' (p q : Int) (h1 : inW p 1000000000 = false) (w : World) :
    Calls Tryd.prog 30 #[(.agg #[.int .i64 p, .int .i64 q])] w fun e w' => e = .returned (.bool false) ∧ Below w.heap.size w w' := by
  go_enter Tryd.func30, Tryd.ntmps30
  go_wp2_with (go_at_call 32; refine (l01Entry_any _ _).mono ?_; rintro e w1 ⟨rfl, rfl⟩)
  go_ret
  exact ⟨rfl, own_alloc (own_refl _) _⟩
theorem specIsF_2' (p q : Int) (h1 : inW p 1000000000 = true) (h2 : inR q 0 1000000000 = false) (w : World) :
    Calls Tryd.prog 30 #[(.agg #[.int .i64 p, .int .i64 q])] w fun e w' => e = .returned (.bool false) ∧ Below w.heap.size w w' := by
  go_enter Tryd.func30, Tryd.ntmps30
  go_wp2_with (first | (go_at_call 32; refine (l01Entry_any _ _).mono ?_; rintro e w1 ⟨rfl, rfl⟩) | (go_at_call 51; refine (l01In_any _ _ _ _).mono ?_; rintro e w1 ⟨rfl, rfl⟩))
  go_ret
  exact ⟨rfl, own_alloc (own_refl _) _⟩
theorem l01Fraction_any (p q : Int) (w : World) :
    Calls Tryd.prog 30 #[(.agg #[.int .i64 p, .int .i64 q])] w fun e w' => e = .returned (.bool (isF p q)) ∧ Below w.heap.size w w' := by
  rcases h1 : inW p 1000000000 with _ | _
  · have : isF p q = false := decide_eq_false fun h => by have := ent_iff.2 h.1; rw [h1] at this; cases this
    rw [this]; exact specIsF_1' p q h1 w
  rcases h2 : inR q 0 1000000000 with _ | _
  · have : isF p q = false := decide_eq_false fun h => by have : inR q 0 1000000000 = true := decide_eq_true ⟨h.2.1, h.2.2.1⟩; rw [h2] at this; cases this
    rw [this]; exact specIsF_2' p q h1 h2 w
  have e1 := ent_iff.1 h1
  have e2 : 0 ≤ q ∧ q ≤ 1000000000 := of_decide_eq_true h2
  have mp := ent_mid' e1
  have mq : Mid q := by unfold Mid; omega
  by_cases h3 : Int.gcd p q = 1
  · have h3' : ((Int.gcd p q : Int) == 1) = true := by rw [h3]; rfl
    by_cases h4 : 0 < q
    · have : isF p q = true := decide_eq_true ⟨e1, e2.1, e2.2, h3, .inl h4⟩
      rw [this]; exact specIsF_4 p q _ mp mq rfl h1 h2 h3' h4 w
    · by_cases h5 : p = 1
      · have : isF p q = true := decide_eq_true ⟨e1, e2.1, e2.2, h3, .inr h5⟩
        rw [this]; exact specIsF_5 p q _ mp mq rfl h1 h2 h3' h4 (by simpa using h5) w
      · have : isF p q = false := decide_eq_false fun h => by rcases h.2.2.2.2 with h | h <;> contradiction
        rw [this]; exact specIsF_6 p q _ mp mq rfl h1 h2 h3' h4 (by simpa using h5) w
  · have : isF p q = false := decide_eq_false fun h => h3 h.2.2.2.1
    rw [this]; exact specIsF_3 p q _ mp mq rfl h1 h2 (by rw [beq_eq_false_iff_ne]; omega) w
end Go.Proofs.YtfgbmddmmgipnaaDoor
