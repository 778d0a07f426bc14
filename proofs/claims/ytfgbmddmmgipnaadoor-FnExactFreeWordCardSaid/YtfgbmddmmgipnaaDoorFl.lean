/- The chain of a matrix: mathematics alone. -/
import Derived.Test.YtfgbmddmmgipnaaDoorA
namespace Go.Proofs.YtfgbmddmmgipnaaDoor
open Go.ChangeShapes Go.WideShapes Go.ChangeAt Go.RowKit

/-- the greatest whole number that is at most x / y -/
def fl (x y : Int) : Int := if y < 0 then (-x) / (-y) else x / y
/-- the chain's next number -/
def chq (a c : Int) : Int := fl (2 * a + c) (2 * c)
/-- The sign of the chain, by a bound of its numbers. -/
def chS : Nat → Int → Int → Int → Int → Int
  | 0, a, _, _, _ => a
  | f + 1, a, b, c, d => if c = 0 then a else chS f c d (chq a c * c - a) (chq a c * d - b)
/-- The numbers of the chain, by a bound of how many there are. -/
def chL : Nat → Int → Int → Int → Int → List Int
  | 0, a, b, _, _ => [a * b]
  | f + 1, a, b, c, d => if c = 0 then [a * b] else chq a c :: chL f c d (chq a c * c - a) (chq a c * d - b)

theorem fl_floor {x y : Int} (hy : y ≠ 0) : (0 < y ∧ fl x y * y ≤ x ∧ x < fl x y * y + y) ∨ (y < 0 ∧ x ≤ fl x y * y ∧ fl x y * y + y < x) := by
  unfold fl
  by_cases h : y < 0
  · rw [if_pos h]
    right
    have h1 := Int.mul_ediv_add_emod (-x) (-y)
    have h2 := Int.emod_nonneg (-x) (show -y ≠ 0 by omega)
    have h3 := Int.emod_lt_of_pos (-x) (show 0 < -y by omega)
    have h4 : (-y) * ((-x) / (-y)) = -((-x) / (-y) * y) := by rw [Int.neg_mul, Int.mul_comm]
    omega
  · rw [if_neg h]
    left
    have h1 := Int.mul_ediv_add_emod x y
    have h2 := Int.emod_nonneg x hy
    have h3 := Int.emod_lt_of_pos x (show 0 < y by omega)
    rw [Int.mul_comm] at h1
    omega
/-- What the quotient rounded to zero and its rest tell. -/
theorem fl_up {x y : Int} (hy : y ≠ 0) (h : x.tmod y ≠ 0 ∧ (x < 0 ↔ ¬ y < 0)) : x.tdiv y - 1 = fl x y := by
  have e := Int.mul_tdiv_add_tmod x y
  rw [Int.mul_comm] at e
  have b1 : (x.tmod y).natAbs = x.natAbs % y.natAbs := Int.natAbs_tmod x y
  have b2 : x.natAbs % y.natAbs < y.natAbs := Nat.mod_lt _ (by omega)
  have hs : (0 ≤ x → 0 ≤ x.tmod y) ∧ (x ≤ 0 → x.tmod y ≤ 0) := by
    refine ⟨fun h => Int.tmod_nonneg y h, fun h => ?_⟩
    have := Int.tmod_nonneg y (show 0 ≤ -x by omega)
    rw [Int.neg_tmod] at this
    omega
  have key : ∀ q q' : Int, ((0 < y ∧ q * y ≤ x ∧ x < q * y + y) ∨ (y < 0 ∧ x ≤ q * y ∧ q * y + y < x)) → ((0 < y ∧ q' * y ≤ x ∧ x < q' * y + y) ∨ (y < 0 ∧ x ≤ q' * y ∧ q' * y + y < x)) → q = q' := by
    intro q q' h1 h2
    have h3 : (q - q') * y = q * y - q' * y := Int.sub_mul _ _ _
    have h4 : ((q - q') * y).natAbs < y.natAbs := by omega
    rw [Int.natAbs_mul] at h4
    have h5 : (q - q').natAbs = 0 := by
      rcases Nat.eq_zero_or_pos (q - q').natAbs with h | h
      · exact h
      · have := Nat.mul_le_mul_right y.natAbs h; omega
    omega
  refine key _ _ ?_ (fl_floor hy)
  have h3 : (x.tdiv y - 1) * y = x.tdiv y * y - y := by rw [Int.sub_mul, Int.one_mul]
  omega
theorem fl_same {x y : Int} (hy : y ≠ 0) (h : ¬ (x.tmod y ≠ 0 ∧ (x < 0 ↔ ¬ y < 0))) : x.tdiv y = fl x y := by
  have e := Int.mul_tdiv_add_tmod x y
  rw [Int.mul_comm] at e
  have b1 : (x.tmod y).natAbs = x.natAbs % y.natAbs := Int.natAbs_tmod x y
  have b2 : x.natAbs % y.natAbs < y.natAbs := Nat.mod_lt _ (by omega)
  have hs : (0 ≤ x → 0 ≤ x.tmod y) ∧ (x ≤ 0 → x.tmod y ≤ 0) := by
    refine ⟨fun h => Int.tmod_nonneg y h, fun h => ?_⟩
    have := Int.tmod_nonneg y (show 0 ≤ -x by omega)
    rw [Int.neg_tmod] at this
    omega
  have key : ∀ q q' : Int, ((0 < y ∧ q * y ≤ x ∧ x < q * y + y) ∨ (y < 0 ∧ x ≤ q * y ∧ q * y + y < x)) → ((0 < y ∧ q' * y ≤ x ∧ x < q' * y + y) ∨ (y < 0 ∧ x ≤ q' * y ∧ q' * y + y < x)) → q = q' := by
    intro q q' h1 h2
    have h3 : (q - q') * y = q * y - q' * y := Int.sub_mul _ _ _
    have h4 : ((q - q') * y).natAbs < y.natAbs := by omega
    rw [Int.natAbs_mul] at h4
    have h5 : (q - q').natAbs = 0 := by
      rcases Nat.eq_zero_or_pos (q - q').natAbs with h | h
      · exact h
      · have := Nat.mul_le_mul_right y.natAbs h; omega
    omega
  refine key _ _ ?_ (fl_floor hy)
  omega

/-- A matrix' numbers, as the chain takes them. -/
def Det (a b c d : Int) : Prop := Ent a ∧ Ent b ∧ Ent c ∧ Ent d ∧ a * d - b * c = 1
theorem det_next {a b c d : Int} (h : Det a b c d) (hc : c ≠ 0) :
    Ent (chq a c) ∧ Det c d (chq a c * c - a) (chq a c * d - b) ∧ (chq a c * c - a).natAbs < c.natAbs := by
  obtain ⟨ha, hb, hcc, hd, e⟩ := h
  unfold Ent at ha hb hcc hd
  have hf := fl_floor (x := 2 * a + c) (y := 2 * c) (by omega)
  have hq : fl (2 * a + c) (2 * c) = chq a c := rfl
  rw [hq] at hf
  clear hq
  obtain ⟨q, hq⟩ : ∃ q, chq a c = q := ⟨_, rfl⟩
  rw [hq] at hf ⊢
  have h2 : q * (2 * c) = 2 * (q * c) := by grind
  rw [h2] at hf
  have hc2 : 2 * (q * c - a).natAbs ≤ c.natAbs := by omega
  have hC : 1 ≤ c.natAbs := by omega
  have hdet : c * (q * d - b) - d * (q * c - a) = 1 := by
    have : c * (q * d - b) - d * (q * c - a) = a * d - b * c := by grind
    rw [this, e]
  have hqA : q.natAbs ≤ a.natAbs := by
    rcases Nat.lt_or_ge a.natAbs q.natAbs with h | h
    · exfalso
      have h3 : (q * c).natAbs = q.natAbs * c.natAbs := Int.natAbs_mul q c
      have h4 : (a.natAbs + 1) * c.natAbs ≤ q.natAbs * c.natAbs := Nat.mul_le_mul_right _ h
      have h5 : (a.natAbs + 1) * c.natAbs = a.natAbs * c.natAbs + c.natAbs := by rw [Nat.add_mul, Nat.one_mul]
      have h6 : a.natAbs * 1 ≤ a.natAbs * c.natAbs := Nat.mul_le_mul_left _ hC
      omega
    · exact h
  have hdA : 2 * (q * d - b).natAbs ≤ d.natAbs + 2 := by
    rcases Nat.lt_or_ge (d.natAbs + 2) (2 * (q * d - b).natAbs) with h | h
    · exfalso
      have h3 : (c * (q * d - b)).natAbs = c.natAbs * (q * d - b).natAbs := Int.natAbs_mul _ _
      have h4 : (d * (q * c - a)).natAbs = d.natAbs * (q * c - a).natAbs := Int.natAbs_mul _ _
      have h5 : d.natAbs * (2 * (q * c - a).natAbs) ≤ d.natAbs * c.natAbs := Nat.mul_le_mul_left _ hc2
      have h6 : c.natAbs * (d.natAbs + 3) ≤ c.natAbs * (2 * (q * d - b).natAbs) := Nat.mul_le_mul_left _ h
      have h7 : c.natAbs * (d.natAbs + 3) = d.natAbs * c.natAbs + 3 * c.natAbs := by rw [Nat.mul_add, Nat.mul_comm c.natAbs d.natAbs, Nat.mul_comm c.natAbs 3]
      have h8 : d.natAbs * (2 * (q * c - a).natAbs) = 2 * (d.natAbs * (q * c - a).natAbs) := by rw [Nat.mul_left_comm]
      have h9 : c.natAbs * (2 * (q * d - b).natAbs) = 2 * (c.natAbs * (q * d - b).natAbs) := by rw [Nat.mul_left_comm]
      omega
    · exact h
  refine ⟨by unfold Ent; omega, ⟨by unfold Ent; omega, by unfold Ent; omega, by unfold Ent; omega, by unfold Ent; omega, hdet.symm ▸ (by grind)⟩, by omega⟩
theorem ch_end {f : Nat} {a b d : Int} : chS f a b 0 d = a ∧ chL f a b 0 d = [a * b] := by
  cases f
  · exact ⟨rfl, rfl⟩
  · exact ⟨by rw [chS, if_pos rfl], by rw [chL, if_pos rfl]⟩
theorem ch_go {f : Nat} {a b c d : Int} (hc : c ≠ 0) : chS (f + 1) a b c d = chS f c d (chq a c * c - a) (chq a c * d - b) ∧
    chL (f + 1) a b c d = chq a c :: chL f c d (chq a c * c - a) (chq a c * d - b) := ⟨by rw [chS, if_neg hc], by rw [chL, if_neg hc]⟩
theorem det_last {a b d : Int} (h : Det a b 0 d) : (a = 1 ∨ a = -1) ∧ Ent (a * b) := by
  obtain ⟨ha, hb, hcc, hd, e⟩ := h
  have h3 : a * d = 1 := by omega
  have h4 : a.natAbs * d.natAbs = 1 := by rw [← Int.natAbs_mul, h3]; rfl
  have h5 := Nat.eq_one_of_mul_eq_one_right h4
  have : a = 1 ∨ a = -1 := by omega
  refine ⟨this, ?_⟩
  unfold Ent at *
  rcases this with rfl | rfl <;> omega
theorem chL_len (f : Nat) : ∀ a b c d : Int, (chL f a b c d).length ≤ f + 1 := by
  induction f with
  | zero => intro a b c d; simp [chL]
  | succ f ih =>
    intro a b c d
    rw [chL]
    split
    · simp
    · have := ih c d (chq a c * c - a) (chq a c * d - b)
      simp only [List.length_cons]; omega
end Go.Proofs.YtfgbmddmmgipnaaDoor
/- Contracts of the quotients rounded down. -/
namespace Go.Proofs.YtfgbmddmmgipnaaDoor
open Go.ChangeShapes Go.WideShapes Go.ChangeAt Go.RowKit

/-- small enough for quotients -/
def Sm (x : Int) : Prop := -4000000000 ≤ x ∧ x ≤ 4000000000
theorem tdiv_sm {x y : Int} (hx : Sm x) : Sm (x.tdiv y) := by
  have h1 : (x.tdiv y).natAbs = x.natAbs / y.natAbs := Int.natAbs_tdiv x y
  have h2 : x.natAbs / y.natAbs ≤ x.natAbs := Nat.div_le_self _ _
  unfold Sm at *
  omega
theorem fl_pos_up {x y : Int} (hy : 0 < y) (h : x.tmod y < 0) : x.tdiv y - 1 = fl x y := by
  refine fl_up (by omega) ⟨by omega, ?_⟩
  have : x < 0 := by
    rcases Int.lt_or_le x 0 with h1 | h1
    · exact h1
    · have := Int.tmod_nonneg y h1; omega
  omega
theorem fl_pos_same {x y : Int} (hy : 0 < y) (h : ¬ x.tmod y < 0) : x.tdiv y = fl x y := by
  refine fl_same (by omega) (fun hh => ?_)
  have hx : x < 0 := by have := hh.2; omega
  have h2 := Int.tmod_nonneg y (show 0 ≤ -x by omega)
  rw [Int.neg_tmod] at h2
  have := hh.1
  omega
theorem fl_neg {x y : Int} (hy : y < 0) : fl x y = fl (-x) (-y) := by
  unfold fl
  rw [if_pos hy, if_neg (by omega)]

set_option maxHeartbeats 1000000 in
theorem specFl_n0 (x y q r : Int) (hx : Sm x) (hyb : Sm y) (hq : (-x).tdiv (-y) = q) (hr : (-x).tmod (-y) = r) (qb : Sm q) (h0 : 0 ≤ r) (hys : y < 0) (w : World) :
    Calls Tryd.prog 54 #[(.int .i64 x), (.int .i64 y)] w fun e w' => e = .returned (.int .i64 q) ∧ w = w' := by
  obtain ⟨_, _⟩ := hx
  obtain ⟨_, _⟩ := hyb
  obtain ⟨_, _⟩ := qb
  have hy0 : ((-y) == 0) = false := by simp; omega
  go_enter Tryd.func54, Tryd.ntmps54
  go_wp2
  go_ret
  exact ⟨rfl, rfl⟩
set_option maxHeartbeats 1000000 in
theorem specFl_n1 (x y q r : Int) (hx : Sm x) (hyb : Sm y) (hq : (-x).tdiv (-y) = q) (hr : (-x).tmod (-y) = r) (qb : Sm q) (h0 : r < 0) (hys : y < 0) (w : World) :
    Calls Tryd.prog 54 #[(.int .i64 x), (.int .i64 y)] w fun e w' => e = .returned (.int .i64 (q - 1)) ∧ w = w' := by
  obtain ⟨_, _⟩ := hx
  obtain ⟨_, _⟩ := hyb
  obtain ⟨_, _⟩ := qb
  have hy0 : ((-y) == 0) = false := by simp; omega
  go_enter Tryd.func54, Tryd.ntmps54
  go_wp2
  go_ret
  exact ⟨rfl, rfl⟩
set_option maxHeartbeats 1000000 in
theorem specFl_p0 (x y q r : Int) (hx : Sm x) (hyb : Sm y) (hq : x.tdiv y = q) (hr : x.tmod y = r) (qb : Sm q) (h0 : 0 ≤ r) (hys : 0 < y) (w : World) :
    Calls Tryd.prog 54 #[(.int .i64 x), (.int .i64 y)] w fun e w' => e = .returned (.int .i64 q) ∧ w = w' := by
  obtain ⟨_, _⟩ := hx
  obtain ⟨_, _⟩ := hyb
  obtain ⟨_, _⟩ := qb
  have hy0 : (y == 0) = false := by simp; omega
  go_enter Tryd.func54, Tryd.ntmps54
  go_wp2
  go_ret
  exact ⟨rfl, rfl⟩
set_option maxHeartbeats 1000000 in
theorem specFl_p1 (x y q r : Int) (hx : Sm x) (hyb : Sm y) (hq : x.tdiv y = q) (hr : x.tmod y = r) (qb : Sm q) (h0 : r < 0) (hys : 0 < y) (w : World) :
    Calls Tryd.prog 54 #[(.int .i64 x), (.int .i64 y)] w fun e w' => e = .returned (.int .i64 (q - 1)) ∧ w = w' := by
  obtain ⟨_, _⟩ := hx
  obtain ⟨_, _⟩ := hyb
  obtain ⟨_, _⟩ := qb
  have hy0 : (y == 0) = false := by simp; omega
  go_enter Tryd.func54, Tryd.ntmps54
  go_wp2
  go_ret
  exact ⟨rfl, rfl⟩
theorem specFl_any (x y : Int) (hx : Sm x) (hyb : Sm y) (hy : y ≠ 0) (w : World) :
    Calls Tryd.prog 54 #[(.int .i64 x), (.int .i64 y)] w fun e w' => e = .returned (.int .i64 (fl x y)) ∧ w = w' := by
  rcases (show y < 0 ∨ 0 < y by omega) with hys | hys
  · have qb := tdiv_sm (y := -y) (show Sm (-x) by unfold Sm at *; omega)
    rw [fl_neg hys]
    by_cases h0 : (-x).tmod (-y) < 0
    · rw [← fl_pos_up (by omega) h0]; exact specFl_n1 x y _ _ hx hyb rfl rfl qb h0 hys w
    · rw [← fl_pos_same (by omega) h0]; exact specFl_n0 x y _ _ hx hyb rfl rfl qb (by omega) hys w
  · have qb := tdiv_sm (y := y) hx
    by_cases h0 : x.tmod y < 0
    · rw [← fl_pos_up hys h0]; exact specFl_p1 x y _ _ hx hyb rfl rfl qb h0 hys w
    · rw [← fl_pos_same hys h0]; exact specFl_p0 x y _ _ hx hyb rfl rfl qb (by omega) hys w
end Go.Proofs.YtfgbmddmmgipnaaDoor
