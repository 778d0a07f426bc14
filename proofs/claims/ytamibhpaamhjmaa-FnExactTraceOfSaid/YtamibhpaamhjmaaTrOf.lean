/- Contracts of TraceOf. -/
import Derived.Test.YtamibhpaamhjmaaTr
namespace Go.Proofs.Ytamibhpaamhjmaa
open Go.ChangeShapes Go.WideShapes Go.ChangeAt Go.RowKit

set_option maxHeartbeats 400000 in
theorem implTraceOf_no (a b c d : Int) (w : World) (h : isM a b c d = false) :
    Calls Try.prog 16 #[(.agg #[.int .i64 a, .int .i64 b, .int .i64 c, .int .i64 d])] w fun e w' => e = .returned (.tuple #[(.int .i64 0), (.int .i64 1)]) ∧ Below w.heap.size w w' := by
  have H := Lib.hid h
  clear h
  go_enter Try.func16, Try.ntmps16
  go_wp2_with fail
  refine (implIs_is false _ _ _ _ _ H.out).mono ?_
  rintro e w1 ⟨rfl, hb1⟩
  obtain ⟨hc1, hf1⟩ := old_cells hb1
  simp only [World.size_alloc] at hc1 hf1
  go_wp2
  go_ret2
  exact ⟨rfl, by repeat (first | exact own_refl _ | assumption | apply own_alloc | apply own_drewN | apply own_drew | (refine own_setCell ?_ (by simp) _) | (refine own_trans ?_ (by assumption)))⟩

set_option maxHeartbeats 400000 in
theorem implTraceOf_yes (a b c d : Int) (w : World) (h : isM a b c d = true) :
    Calls Try.prog 16 #[(.agg #[.int .i64 a, .int .i64 b, .int .i64 c, .int .i64 d])] w fun e w' => e = .returned (.tuple #[(.int .i64 (a + d)), (.int .i64 0)]) ∧ Below w.heap.size w w' := by
  obtain ⟨⟨_, _⟩, eb, ec, ⟨_, _⟩, _⟩ := isM_ent h
  have H := Lib.hid h
  clear h
  go_enter Try.func16, Try.ntmps16
  go_wp2_with fail
  refine (implIs_is true _ _ _ _ _ H.out).mono ?_
  rintro e w1 ⟨rfl, hb1⟩
  obtain ⟨hc1, hf1⟩ := old_cells hb1
  simp only [World.size_alloc] at hc1 hf1
  go_wp2
  go_ret2
  exact ⟨rfl, by repeat (first | exact own_refl _ | assumption | apply own_alloc | apply own_drewN | apply own_drew | (refine own_setCell ?_ (by simp) _) | (refine own_trans ?_ (by assumption)))⟩

set_option maxHeartbeats 400000 in
theorem specTraceOf_no (a b c d : Int) (w : World) (h : isM a b c d = false) :
    Calls Try.prog 15 #[(.agg #[.int .i64 a, .int .i64 b, .int .i64 c, .int .i64 d])] w fun e w' => e = .returned (.tuple #[(.int .i64 0), (.int .i64 1)]) ∧ Below w.heap.size w w' := by
  have H := Lib.hid h
  clear h
  go_enter Try.func15, Try.ntmps15
  go_wp2_with fail
  refine (l01Is_is false _ _ _ _ _ H.out).mono ?_
  rintro e w1 ⟨rfl, hb1⟩
  obtain ⟨hc1, hf1⟩ := old_cells hb1
  simp only [World.size_alloc] at hc1 hf1
  go_wp2
  go_ret2
  exact ⟨rfl, by repeat (first | exact own_refl _ | assumption | apply own_alloc | apply own_drewN | apply own_drew | (refine own_setCell ?_ (by simp) _) | (refine own_trans ?_ (by assumption)))⟩

set_option maxHeartbeats 400000 in
theorem specTraceOf_yes (a b c d : Int) (w : World) (h : isM a b c d = true) :
    Calls Try.prog 15 #[(.agg #[.int .i64 a, .int .i64 b, .int .i64 c, .int .i64 d])] w fun e w' => e = .returned (.tuple #[(.int .i64 (a + d)), (.int .i64 0)]) ∧ Below w.heap.size w w' := by
  obtain ⟨ea, eb, ec, ed, _⟩ := isM_ent h
  have H := Lib.hid h
  clear h
  go_enter Try.func15, Try.ntmps15
  go_wp2_with fail
  refine (l01Is_is true _ _ _ _ _ H.out).mono ?_
  rintro e w1 ⟨rfl, hb1⟩
  obtain ⟨hc1, hf1⟩ := old_cells hb1
  simp only [World.size_alloc] at hc1 hf1
  go_wp2_with fail
  refine (l01Trace_any _ _ _ _ ea ed _).mono ?_
  rintro e w2 ⟨rfl, hb2⟩
  replace hb2 := own_trans hb1 hb2
  clear hb1
  go_wp2
  go_ret2
  exact ⟨rfl, by repeat (first | exact own_refl _ | assumption | apply own_alloc | apply own_drewN | apply own_drew | (refine own_setCell ?_ (by simp) _) | (refine own_trans ?_ (by assumption)))⟩
end Go.Proofs.Ytamibhpaamhjmaa
