/- Contracts of the quotients rounded down. -/
import Derived.Test.YtejghidllochoaaChM
namespace Go.Proofs.Ytejghidllochoaa
open Go.ChangeShapes Go.WideShapes Go.ChangeAt Go.RowKit

/-- small enough for quotients -/
def Sm (x : Int) : Prop := -4000000000 ≤ x ∧ x ≤ 4000000000
theorem tdiv_sm {x y : Int} (hx : Sm x) : Sm (x.tdiv y) := by
  have h1 : (x.tdiv y).natAbs = x.natAbs / y.natAbs := Int.natAbs_tdiv x y
  have h2 : x.natAbs / y.natAbs ≤ x.natAbs := Nat.div_le_self _ _
  unfold Sm at *
  omega
theorem fl_pos_up {x y : Int} (hy : 0 < y) (h : x.tmod y < 0) : x.tdiv y - 1 = fl x y := by
  refine fl_up (by omega) ⟨by omega, ?_⟩
  have : x < 0 := by
    rcases Int.lt_or_le x 0 with h1 | h1
    · exact h1
    · have := Int.tmod_nonneg y h1; omega
  omega
theorem fl_pos_same {x y : Int} (hy : 0 < y) (h : ¬ x.tmod y < 0) : x.tdiv y = fl x y := by
  refine fl_same (by omega) (fun hh => ?_)
  have hx : x < 0 := by have := hh.2; omega
  have h2 := Int.tmod_nonneg y (show 0 ≤ -x by omega)
  rw [Int.neg_tmod] at h2
  have := hh.1
  omega
theorem fl_neg {x y : Int} (hy : y < 0) : fl x y = fl (-x) (-y) := by
  unfold fl
  rw [if_pos hy, if_neg (by omega)]

set_option maxHeartbeats 1000000 in
theorem implFl_0nn (x y q r : Int) (hx : Sm x) (hyb : Sm y) (hq : x.tdiv y = q) (hr : x.tmod y = r) (qb : Sm q) (h0 : r = 0) (hxs : x < 0) (hys : y < 0) (w : World) :
    Calls Try.prog 38 #[(.int .i64 x), (.int .i64 y)] w fun e w' => e = .returned (.int .i64 q) ∧ w = w' := by
  obtain ⟨_, _⟩ := hx
  obtain ⟨_, _⟩ := hyb
  obtain ⟨_, _⟩ := qb
  have hy0 : (y == 0) = false := by simp; omega
  subst h0
  have b1 : decide (x < 0) = true := by simpa using hxs
  have b2 : decide (y < 0) = true := by first | exact decide_eq_true hys | exact decide_eq_false (by omega)
  go_enter Try.func38, Try.ntmps38
  go_wp2
  go_ret
  exact ⟨rfl, rfl⟩
set_option maxHeartbeats 1000000 in
theorem implFl_0np (x y q r : Int) (hx : Sm x) (hyb : Sm y) (hq : x.tdiv y = q) (hr : x.tmod y = r) (qb : Sm q) (h0 : r = 0) (hxs : x < 0) (hys : 0 < y) (w : World) :
    Calls Try.prog 38 #[(.int .i64 x), (.int .i64 y)] w fun e w' => e = .returned (.int .i64 q) ∧ w = w' := by
  obtain ⟨_, _⟩ := hx
  obtain ⟨_, _⟩ := hyb
  obtain ⟨_, _⟩ := qb
  have hy0 : (y == 0) = false := by simp; omega
  subst h0
  have b1 : decide (x < 0) = true := by simpa using hxs
  have b2 : decide (y < 0) = false := by first | exact decide_eq_true hys | exact decide_eq_false (by omega)
  go_enter Try.func38, Try.ntmps38
  go_wp2
  go_ret
  exact ⟨rfl, rfl⟩
set_option maxHeartbeats 1000000 in
theorem implFl_0pn (x y q r : Int) (hx : Sm x) (hyb : Sm y) (hq : x.tdiv y = q) (hr : x.tmod y = r) (qb : Sm q) (h0 : r = 0) (hxs : 0 ≤ x) (hys : y < 0) (w : World) :
    Calls Try.prog 38 #[(.int .i64 x), (.int .i64 y)] w fun e w' => e = .returned (.int .i64 q) ∧ w = w' := by
  obtain ⟨_, _⟩ := hx
  obtain ⟨_, _⟩ := hyb
  obtain ⟨_, _⟩ := qb
  have hy0 : (y == 0) = false := by simp; omega
  subst h0
  have b1 : decide (x < 0) = false := by simpa using hxs
  have b2 : decide (y < 0) = true := by first | exact decide_eq_true hys | exact decide_eq_false (by omega)
  go_enter Try.func38, Try.ntmps38
  go_wp2
  go_ret
  exact ⟨rfl, rfl⟩
set_option maxHeartbeats 1000000 in
theorem implFl_0pp (x y q r : Int) (hx : Sm x) (hyb : Sm y) (hq : x.tdiv y = q) (hr : x.tmod y = r) (qb : Sm q) (h0 : r = 0) (hxs : 0 ≤ x) (hys : 0 < y) (w : World) :
    Calls Try.prog 38 #[(.int .i64 x), (.int .i64 y)] w fun e w' => e = .returned (.int .i64 q) ∧ w = w' := by
  obtain ⟨_, _⟩ := hx
  obtain ⟨_, _⟩ := hyb
  obtain ⟨_, _⟩ := qb
  have hy0 : (y == 0) = false := by simp; omega
  subst h0
  have b1 : decide (x < 0) = false := by simpa using hxs
  have b2 : decide (y < 0) = false := by first | exact decide_eq_true hys | exact decide_eq_false (by omega)
  go_enter Try.func38, Try.ntmps38
  go_wp2
  go_ret
  exact ⟨rfl, rfl⟩
set_option maxHeartbeats 1000000 in
theorem implFl_1nn (x y q r : Int) (hx : Sm x) (hyb : Sm y) (hq : x.tdiv y = q) (hr : x.tmod y = r) (qb : Sm q) (h0 : r ≠ 0) (hxs : x < 0) (hys : y < 0) (w : World) :
    Calls Try.prog 38 #[(.int .i64 x), (.int .i64 y)] w fun e w' => e = .returned (.int .i64 q) ∧ w = w' := by
  obtain ⟨_, _⟩ := hx
  obtain ⟨_, _⟩ := hyb
  obtain ⟨_, _⟩ := qb
  have hy0 : (y == 0) = false := by simp; omega
  have h0 : (r == 0) = false := by simpa using h0
  have b0 : (r != 0) = true := by simp at h0; simpa using h0
  have b1 : decide (x < 0) = true := by simpa using hxs
  have b2 : decide (y < 0) = true := by first | exact decide_eq_true hys | exact decide_eq_false (by omega)
  go_enter Try.func38, Try.ntmps38
  go_wp2
  go_ret
  exact ⟨rfl, rfl⟩
set_option maxHeartbeats 1000000 in
theorem implFl_1np (x y q r : Int) (hx : Sm x) (hyb : Sm y) (hq : x.tdiv y = q) (hr : x.tmod y = r) (qb : Sm q) (h0 : r ≠ 0) (hxs : x < 0) (hys : 0 < y) (w : World) :
    Calls Try.prog 38 #[(.int .i64 x), (.int .i64 y)] w fun e w' => e = .returned (.int .i64 (q - 1)) ∧ w = w' := by
  obtain ⟨_, _⟩ := hx
  obtain ⟨_, _⟩ := hyb
  obtain ⟨_, _⟩ := qb
  have hy0 : (y == 0) = false := by simp; omega
  have h0 : (r == 0) = false := by simpa using h0
  have b0 : (r != 0) = true := by simp at h0; simpa using h0
  have b1 : decide (x < 0) = true := by simpa using hxs
  have b2 : decide (y < 0) = false := by first | exact decide_eq_true hys | exact decide_eq_false (by omega)
  go_enter Try.func38, Try.ntmps38
  go_wp2
  go_ret
  exact ⟨rfl, rfl⟩
set_option maxHeartbeats 1000000 in
theorem implFl_1pn (x y q r : Int) (hx : Sm x) (hyb : Sm y) (hq : x.tdiv y = q) (hr : x.tmod y = r) (qb : Sm q) (h0 : r ≠ 0) (hxs : 0 ≤ x) (hys : y < 0) (w : World) :
    Calls Try.prog 38 #[(.int .i64 x), (.int .i64 y)] w fun e w' => e = .returned (.int .i64 (q - 1)) ∧ w = w' := by
  obtain ⟨_, _⟩ := hx
  obtain ⟨_, _⟩ := hyb
  obtain ⟨_, _⟩ := qb
  have hy0 : (y == 0) = false := by simp; omega
  have h0 : (r == 0) = false := by simpa using h0
  have b0 : (r != 0) = true := by simp at h0; simpa using h0
  have b1 : decide (x < 0) = false := by simpa using hxs
  have b2 : decide (y < 0) = true := by first | exact decide_eq_true hys | exact decide_eq_false (by omega)
  go_enter Try.func38, Try.ntmps38
  go_wp2
  go_ret
  exact ⟨rfl, rfl⟩
set_option maxHeartbeats 1000000 in
theorem implFl_1pp (x y q r : Int) (hx : Sm x) (hyb : Sm y) (hq : x.tdiv y = q) (hr : x.tmod y = r) (qb : Sm q) (h0 : r ≠ 0) (hxs : 0 ≤ x) (hys : 0 < y) (w : World) :
    Calls Try.prog 38 #[(.int .i64 x), (.int .i64 y)] w fun e w' => e = .returned (.int .i64 q) ∧ w = w' := by
  obtain ⟨_, _⟩ := hx
  obtain ⟨_, _⟩ := hyb
  obtain ⟨_, _⟩ := qb
  have hy0 : (y == 0) = false := by simp; omega
  have h0 : (r == 0) = false := by simpa using h0
  have b0 : (r != 0) = true := by simp at h0; simpa using h0
  have b1 : decide (x < 0) = false := by simpa using hxs
  have b2 : decide (y < 0) = false := by first | exact decide_eq_true hys | exact decide_eq_false (by omega)
  go_enter Try.func38, Try.ntmps38
  go_wp2
  go_ret
  exact ⟨rfl, rfl⟩
theorem implFl_any (x y : Int) (hx : Sm x) (hyb : Sm y) (hy : y ≠ 0) (w : World) :
    Calls Try.prog 38 #[(.int .i64 x), (.int .i64 y)] w fun e w' => e = .returned (.int .i64 (fl x y)) ∧ w = w' := by
  have qb := tdiv_sm (y := y) hx
  rcases (show y < 0 ∨ 0 < y by omega) with hys | hys <;> rcases (show x < 0 ∨ 0 ≤ x by omega) with hxs | hxs <;> by_cases h0 : x.tmod y = 0
  · rw [← (fl_same hy (by omega))]; exact implFl_0nn x y _ _ hx hyb rfl rfl qb h0 hxs hys w
  · rw [← (fl_same hy (by omega))]; exact implFl_1nn x y _ _ hx hyb rfl rfl qb h0 hxs hys w
  · rw [← (fl_same hy (by omega))]; exact implFl_0pn x y _ _ hx hyb rfl rfl qb h0 hxs hys w
  · rw [← (fl_up hy ⟨h0, by omega⟩)]; exact implFl_1pn x y _ _ hx hyb rfl rfl qb h0 hxs hys w
  · rw [← (fl_same hy (by omega))]; exact implFl_0np x y _ _ hx hyb rfl rfl qb h0 hxs hys w
  · rw [← (fl_up hy ⟨h0, by omega⟩)]; exact implFl_1np x y _ _ hx hyb rfl rfl qb h0 hxs hys w
  · rw [← (fl_same hy (by omega))]; exact implFl_0pp x y _ _ hx hyb rfl rfl qb h0 hxs hys w
  · rw [← (fl_same hy (by omega))]; exact implFl_1pp x y _ _ hx hyb rfl rfl qb h0 hxs hys w
end Go.Proofs.Ytejghidllochoaa
