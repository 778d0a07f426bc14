/- Contracts of withinMaxForm. -/
import Derived.Test.YtfpgdbdgglbleaaDoorFm
namespace Go.Proofs.YtfpgdbdgglbleaaDoor
open Go.ChangeShapes Go.WideShapes Go.ChangeAt Go.RowKit

set_option maxHeartbeats 1000000 in
theorem withinMaxForm_no (a b c : Int) (h : allW [a, b, c] 1000000 = false) (w : World) :
    Calls Tryd.prog 19 #[(.agg #[.int .i64 a, .int .i64 b, .int .i64 c])] w fun e w' => e = .returned (.tuple #[(.agg #[.int .i64 0, .int .i64 0, .int .i64 0]), (.int .i64 3)]) ∧ Below w.heap.size w w' := by
  have H := Lib.hid h
  clear h
  go_enter Tryd.func19, Tryd.ntmps19
  go_wp2_with fail
  refine (allW3_is false _ _ _ _ _ H.out (by simp) (by simp) (by simp)).mono ?_
  rintro e w1 ⟨rfl, rfl⟩
  go_wp2
  exact bodyPost_ret (v := .tuple #[(.agg #[.int .i64 0, .int .i64 0, .int .i64 0]), (.int .i64 3)]) (by simp [results, Tryd.results19, go_sem]) rfl ⟨rfl, by repeat (first | with_reducible exact own_refl _ | with_reducible assumption | with_reducible apply own_alloc | with_reducible apply own_drewN | with_reducible apply own_drew | ((with_reducible refine own_setCell ?_ ?_ _); rotate_left; focus (first | (simp; done) | (simp; omega))) | (with_reducible (refine own_trans ?_ (by assumption))))⟩
set_option maxHeartbeats 1000000 in
theorem withinMaxForm_yes (a b c : Int) (h : allW [a, b, c] 1000000 = true) (w : World) :
    Calls Tryd.prog 19 #[(.agg #[.int .i64 a, .int .i64 b, .int .i64 c])] w fun e w' => e = .returned (.tuple #[(.agg #[.int .i64 a, .int .i64 b, .int .i64 c]), (.int .i64 0)]) ∧ Below w.heap.size w w' := by
  have H := Lib.hid h
  clear h
  go_enter Tryd.func19, Tryd.ntmps19
  go_wp2_with fail
  refine (allW3_is true _ _ _ _ _ H.out (by simp) (by simp) (by simp)).mono ?_
  rintro e w1 ⟨rfl, rfl⟩
  go_wp2
  exact bodyPost_ret (v := .tuple #[(.agg #[.int .i64 a, .int .i64 b, .int .i64 c]), (.int .i64 0)]) (by simp [results, Tryd.results19, go_sem]) rfl ⟨rfl, by repeat (first | with_reducible exact own_refl _ | with_reducible assumption | with_reducible apply own_alloc | with_reducible apply own_drewN | with_reducible apply own_drew | ((with_reducible refine own_setCell ?_ ?_ _); rotate_left; focus (first | (simp; done) | (simp; omega))) | (with_reducible (refine own_trans ?_ (by assumption))))⟩

theorem isQ_of {a b c : Int} (h : ¬ (a = 0 ∧ b = 0 ∧ c = 0)) : isQ a b c = allW [a, b, c] 1000000 := by
  rw [Bool.eq_iff_iff, allW3]
  unfold isQ
  rw [decide_eq_true_iff]
  constructor
  · rintro ⟨x, y, z, _⟩; exact ⟨x, y, z⟩
  · rintro ⟨x, y, z⟩; exact ⟨x, y, z, h⟩
end Go.Proofs.YtfpgdbdgglbleaaDoor
