/- Contracts of InverseOf. -/
import Derived.Test.YtamibhpaamhjmaaInv
namespace Go.Proofs.Ytamibhpaamhjmaa
open Go.ChangeShapes Go.WideShapes Go.ChangeAt Go.RowKit

set_option maxHeartbeats 400000 in
theorem implInverseOf_no (a b c d : Int) (w : World) (h : isM a b c d = false) :
    Calls Try.prog 13 #[(.agg #[.int .i64 a, .int .i64 b, .int .i64 c, .int .i64 d])] w fun e w' => e = .returned (.tuple #[(.agg #[.int .i64 0, .int .i64 0, .int .i64 0, .int .i64 0]), (.int .i64 1)]) ∧ Below w.heap.size w w' := by
  have H := Lib.hid h
  clear h
  go_enter Try.func13, Try.ntmps13
  go_wp2_with fail
  refine (implIs_is false _ _ _ _ _ H.out).mono ?_
  rintro e w1 ⟨rfl, hb1⟩
  obtain ⟨hc1, hf1⟩ := old_cells hb1
  simp only [World.size_alloc] at hc1 hf1
  go_wp2
  exact bodyPost_ret (v := .tuple #[(.agg #[.int .i64 0, .int .i64 0, .int .i64 0, .int .i64 0]), (.int .i64 1)]) (by simp [results, Try.results13, go_sem, hc1]) rfl ⟨rfl, by repeat (first | exact own_refl _ | assumption | apply own_alloc | apply own_drewN | apply own_drew | (refine own_setCell ?_ (by simp) _) | (refine own_trans ?_ (by assumption)))⟩


set_option maxHeartbeats 400000 in
theorem implInverseOf_yes (a b c d : Int) (w : World) (h : isM a b c d = true) :
    Calls Try.prog 13 #[(.agg #[.int .i64 a, .int .i64 b, .int .i64 c, .int .i64 d])] w fun e w' => e = .returned (.tuple #[(.agg #[.int .i64 d, .int .i64 (-b), .int .i64 (-c), .int .i64 a]), (.int .i64 0)]) ∧ Below w.heap.size w w' := by
  obtain ⟨_, eb, ec, _, _⟩ := isM_ent h
  have H := Lib.hid h
  clear h
  go_enter Try.func13, Try.ntmps13
  go_wp2_with fail
  refine (implIs_is true _ _ _ _ _ H.out).mono ?_
  rintro e w1 ⟨rfl, hb1⟩
  obtain ⟨hc1, hf1⟩ := old_cells hb1
  simp only [World.size_alloc] at hc1 hf1
  go_wp2_with fail
  refine (implInverse_ent _ _ _ _ eb ec _).mono ?_
  rintro e w2 ⟨rfl, hb2⟩
  replace hb2 := own_trans hb1 hb2
  clear hb1
  obtain ⟨hc2, hf2⟩ := old_cells hb2
  simp only [World.size_alloc] at hc2 hf2
  go_wp2
  exact bodyPost_ret (v := .tuple #[(.agg #[.int .i64 d, .int .i64 (-b), .int .i64 (-c), .int .i64 a]), (.int .i64 0)]) (by simp [results, Try.results13, go_sem, hc2]) rfl ⟨rfl, by repeat (first | exact own_refl _ | assumption | apply own_alloc | apply own_drewN | apply own_drew | (refine own_setCell ?_ (by simp) _) | (refine own_trans ?_ (by assumption)))⟩


set_option maxHeartbeats 400000 in
theorem specInverseOf_no (a b c d : Int) (w : World) (h : isM a b c d = false) :
    Calls Try.prog 12 #[(.agg #[.int .i64 a, .int .i64 b, .int .i64 c, .int .i64 d])] w fun e w' => e = .returned (.tuple #[(.agg #[.int .i64 0, .int .i64 0, .int .i64 0, .int .i64 0]), (.int .i64 1)]) ∧ Below w.heap.size w w' := by
  have H := Lib.hid h
  clear h
  go_enter Try.func12, Try.ntmps12
  go_wp2_with fail
  refine (l01Is_is false _ _ _ _ _ H.out).mono ?_
  rintro e w1 ⟨rfl, hb1⟩
  obtain ⟨hc1, hf1⟩ := old_cells hb1
  simp only [World.size_alloc] at hc1 hf1
  go_wp2
  exact bodyPost_ret (v := .tuple #[(.agg #[.int .i64 0, .int .i64 0, .int .i64 0, .int .i64 0]), (.int .i64 1)]) (by simp [results, Try.results12, go_sem, hc1]) rfl ⟨rfl, by repeat (first | exact own_refl _ | assumption | apply own_alloc | apply own_drewN | apply own_drew | (refine own_setCell ?_ (by simp) _) | (refine own_trans ?_ (by assumption)))⟩


set_option maxHeartbeats 400000 in
theorem specInverseOf_yes (a b c d : Int) (w : World) (h : isM a b c d = true) :
    Calls Try.prog 12 #[(.agg #[.int .i64 a, .int .i64 b, .int .i64 c, .int .i64 d])] w fun e w' => e = .returned (.tuple #[(.agg #[.int .i64 d, .int .i64 (-b), .int .i64 (-c), .int .i64 a]), (.int .i64 0)]) ∧ Below w.heap.size w w' := by
  obtain ⟨_, eb, ec, _, _⟩ := isM_ent h
  have H := Lib.hid h
  clear h
  go_enter Try.func12, Try.ntmps12
  go_wp2_with fail
  refine (l01Is_is true _ _ _ _ _ H.out).mono ?_
  rintro e w1 ⟨rfl, hb1⟩
  obtain ⟨hc1, hf1⟩ := old_cells hb1
  simp only [World.size_alloc] at hc1 hf1
  go_wp2_with fail
  refine (specInverse_ent _ _ _ _ eb ec _).mono ?_
  rintro e w2 ⟨rfl, hb2⟩
  replace hb2 := own_trans hb1 hb2
  clear hb1
  obtain ⟨hc2, hf2⟩ := old_cells hb2
  simp only [World.size_alloc] at hc2 hf2
  go_wp2
  exact bodyPost_ret (v := .tuple #[(.agg #[.int .i64 d, .int .i64 (-b), .int .i64 (-c), .int .i64 a]), (.int .i64 0)]) (by simp [results, Try.results12, go_sem, hc2]) rfl ⟨rfl, by repeat (first | exact own_refl _ | assumption | apply own_alloc | apply own_drewN | apply own_drew | (refine own_setCell ?_ (by simp) _) | (refine own_trans ?_ (by assumption)))⟩

end Go.Proofs.Ytamibhpaamhjmaa
