/- The spec's side of CompareFractions, and the law. -/
import Derived.Test.YtpglcpolbhlekaaDoorCmp
import Derived.Test.YtpglcpolbhlekaaDoorF
import Derived.Test.YtpglcpolbhlekaaDoorLoCompareFractions
namespace Go.Proofs.YtpglcpolbhlekaaDoor
open Go.ChangeShapes Go.WideShapes Go.ChangeAt Go.RowKit

def less (a b c d : Int) : Bool := if b = 0 ∨ d = 0 then decide (0 < b ∧ d = 0) else decide (a * d < c * b)
set_option maxHeartbeats 1000000 in
theorem l01Less_any (a b c d : Int) (ea : Ent a) (eb : Ent b) (ec : Ent c) (ed : Ent d) (hb : 0 ≤ b) (_ : 0 ≤ d) (w : World) :
    Calls Tryd.prog 67 #[(.agg #[.int .i64 a, .int .i64 b]), (.agg #[.int .i64 c, .int .i64 d])] w fun e w' => e = .returned (.bool (less a b c d)) ∧ Below w.heap.size w w' := by
  obtain ⟨_, _⟩ := ent_mul ea ed
  obtain ⟨_, _⟩ := ent_mul ec eb
  unfold less
  by_cases hb0 : b = 0
  · rw [if_pos (.inl hb0)]
    have H := Lib.hid (show (decide (0 < b) && decide (d = 0)) = false by simp [hb0])
    have h1 : (b == 0) = true := by simp [hb0]
    have h2 : ¬ 0 < b := by omega
    clear hb0
    go_enter Tryd.func67, Tryd.ntmps67
    go_wp2
    go_ret
    exact ⟨ret_bool (by simpa using H.out.symm), by repeat (first | with_reducible exact own_refl _ | with_reducible assumption | with_reducible apply own_alloc | with_reducible apply own_drewN | with_reducible apply own_drew | ((with_reducible refine own_setCell ?_ ?_ _); rotate_left; focus (first | (simp; done) | (simp; omega))) | (with_reducible (refine own_trans ?_ (by assumption))))⟩
  · by_cases hd0 : d = 0
    · rw [if_pos (.inr hd0)]
      have H := Lib.hid (show (decide (0 < b) && decide (d = 0)) = true by simp [hd0]; omega)
      have h1 : (b == 0) = false := by simp [hb0]
      have h2 : (d == 0) = true := by simp [hd0]
      have h3 : 0 < b := by omega
      clear hb0 hd0
      go_enter Tryd.func67, Tryd.ntmps67
      go_wp2
      go_ret
      exact ⟨ret_bool (by simpa using H.out.symm), by repeat (first | with_reducible exact own_refl _ | with_reducible assumption | with_reducible apply own_alloc | with_reducible apply own_drewN | with_reducible apply own_drew | ((with_reducible refine own_setCell ?_ ?_ _); rotate_left; focus (first | (simp; done) | (simp; omega))) | (with_reducible (refine own_trans ?_ (by assumption))))⟩
    · rw [if_neg (by simp [hb0, hd0])]
      have h1 : (b == 0) = false := by simp [hb0]
      have h2 : (d == 0) = false := by simp [hd0]
      clear hb0 hd0
      go_enter Tryd.func67, Tryd.ntmps67
      go_wp2
      go_ret
      exact ⟨rfl, by repeat (first | with_reducible exact own_refl _ | with_reducible assumption | with_reducible apply own_alloc | with_reducible apply own_drewN | with_reducible apply own_drew | ((with_reducible refine own_setCell ?_ ?_ _); rotate_left; focus (first | (simp; done) | (simp; omega))) | (with_reducible (refine own_trans ?_ (by assumption))))⟩
theorem less_sgn (a b c d : Int) (hb : 0 ≤ b) (hd : 0 ≤ d) (ha : 0 < b ∨ a = 1) (hc : 0 < d ∨ c = 1) :
    sgn (a * d - c * b) = if less a b c d = true then -1 else if less c d a b = true then 1 else 0 := by
  unfold sgn less
  by_cases hb0 : b = 0
  · subst hb0
    have : a = 1 := by omega
    subst this
    by_cases hd0 : d = 0
    · subst hd0; simp
    · have : 0 < d := by omega
      simp [this]
      omega
  · by_cases hd0 : d = 0
    · subst hd0
      have : c = 1 := by omega
      subst this
      have : 0 < b := by omega
      simp [this]
    · simp only [hb0, hd0, or_self, if_false, decide_eq_true_eq]
      rcases (show a * d < c * b ∨ c * b < a * d ∨ a * d = c * b by omega) with h | h | h
      · rw [if_pos (by omega), if_pos h]
      · rw [if_neg (by omega), if_pos (by omega), if_neg (by omega), if_pos h]
      · rw [if_neg (by omega), if_neg (by omega), if_neg (by omega), if_neg (by omega)]
theorem less_is (r : Bool) (a b c d : Int) (ea : Ent a) (eb : Ent b) (ec : Ent c) (ed : Ent d) (hb : 0 ≤ b) (hd : 0 ≤ d) (h : less a b c d = r) (w : World) :
    Calls Tryd.prog 67 #[(.agg #[.int .i64 a, .int .i64 b]), (.agg #[.int .i64 c, .int .i64 d])] w fun e w' => e = .returned (.bool r) ∧ Below w.heap.size w w' := h ▸ l01Less_any a b c d ea eb ec ed hb hd w

end Go.Proofs.YtpglcpolbhlekaaDoor
