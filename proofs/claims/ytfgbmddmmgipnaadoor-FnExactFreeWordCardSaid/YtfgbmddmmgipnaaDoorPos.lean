/- Contracts of isPositive on both sides. -/
import Derived.Test.YtfgbmddmmgipnaaDoorA
namespace Go.Proofs.YtfgbmddmmgipnaaDoor
open Go.ChangeShapes Go.WideShapes Go.ChangeAt Go.RowKit

/-- none of four numbers is less than 0 -/
def posB (a b c d : Int) : Bool := decide (0 ≤ a ∧ 0 ≤ b ∧ 0 ≤ c ∧ 0 ≤ d)

set_option maxHeartbeats 1000000 in
theorem min4 (a b c d : Int) (g : Nat) (w : World) (h0 : w.cell? ⟨g, 0, none⟩ = some (.int .i64 a)) (h1 : w.cell? ⟨g, 1, none⟩ = some (.int .i64 b)) (h2 : w.cell? ⟨g, 2, none⟩ = some (.int .i64 c)) (h3 : w.cell? ⟨g, 3, none⟩ = some (.int .i64 d)) :
    Calls Tryd.prog 55 #[.slice (some ⟨g, 0, none⟩) 4 4] w fun e w' => e = .returned (.int .i64 (min (min (min a b) c) d)) ∧ w = w' := by
  go_enter Tryd.func55, Tryd.ntmps55
  go_wp2
  go_rounds 4
  all_goals
    go_ret
    exact ⟨ret_int (by omega), rfl⟩
theorem min4_is (k : Int) (a b c d : Int) (g : Nat) (w : World) (hk : min (min (min a b) c) d = k) (h0 : w.cell? ⟨g, 0, none⟩ = some (.int .i64 a)) (h1 : w.cell? ⟨g, 1, none⟩ = some (.int .i64 b)) (h2 : w.cell? ⟨g, 2, none⟩ = some (.int .i64 c)) (h3 : w.cell? ⟨g, 3, none⟩ = some (.int .i64 d)) :
    Calls Tryd.prog 55 #[.slice (some ⟨g, 0, none⟩) 4 4] w fun e w' => e = .returned (.int .i64 k) ∧ w = w' := by
  subst hk
  exact min4 a b c d g w h0 h1 h2 h3

theorem implPos_is (r : Bool) (a b c d : Int) (w : World) (h : posB a b c d = r) :
    Calls Tryd.prog 38 #[(.agg #[.int .i64 a, .int .i64 b, .int .i64 c, .int .i64 d])] w fun e w' => e = .returned (.bool r) ∧ Below w.heap.size w w' := by
  obtain ⟨k, hk⟩ : ∃ k, min (min (min a b) c) d = k := ⟨_, rfl⟩
  have HK := Lib.hid hk
  have e : decide (0 ≤ k) = posB a b c d := by
    unfold posB
    rw [Bool.eq_iff_iff, decide_eq_true_iff, decide_eq_true_iff, ← hk, Int.le_min, Int.le_min, Int.le_min]
    simp only [and_assoc]
  have HR := Lib.hid (e.trans h)
  clear hk h e
  go_enter Tryd.func38, Tryd.ntmps38
  go_wp2_with fail
  refine (min4_is k a b c d _ _ HK.out (by simp) (by simp) (by simp) (by simp)).mono ?_
  rintro e w1 ⟨rfl, rfl⟩
  go_wp2
  go_ret
  exact ⟨ret_bool HR.out, by repeat (first | with_reducible exact own_refl _ | with_reducible assumption | with_reducible apply own_alloc | with_reducible apply own_drewN | with_reducible apply own_drew | ((with_reducible refine own_setCell ?_ ?_ _); rotate_left; focus (first | (simp; done) | (simp; omega))) | (with_reducible (refine own_trans ?_ (by assumption))))⟩

end Go.Proofs.YtfgbmddmmgipnaaDoor
