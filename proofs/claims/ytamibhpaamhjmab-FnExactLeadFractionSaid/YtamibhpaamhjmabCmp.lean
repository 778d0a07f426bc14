/- Contracts of CompareFractions. -/
import Derived.Test.YtamibhpaamhjmabIsF
namespace Go.Proofs.Ytamibhpaamhjmab
open Go.ChangeShapes Go.WideShapes Go.ChangeAt Go.RowKit

def sgn (x : Int) : Int := if x < 0 then -1 else if 0 < x then 1 else 0
theorem signOf_any (x : Int) (w : World) :
    Calls Try.prog 25 #[(.int .i64 x)] w fun e w' => e = .returned (.int .i64 (sgn x)) ∧ w = w' := by
  unfold sgn
  rcases (show x < 0 ∨ 0 < x ∨ x = 0 by omega) with h | h | h
  · rw [if_pos h]
    go_enter Try.func25, Try.ntmps25
    go_wp2
    go_ret
    exact ⟨rfl, rfl⟩
  · have h' : ¬ x < 0 := by omega
    rw [if_neg h', if_pos h]
    go_enter Try.func25, Try.ntmps25
    go_wp2
    go_ret
    exact ⟨rfl, rfl⟩
  · subst h
    go_enter Try.func25, Try.ntmps25
    go_wp2
    go_ret
    exact ⟨rfl, rfl⟩
theorem isF_ent {p q : Int} (h : isF p q = true) : Ent p ∧ Ent q ∧ 0 ≤ q ∧ (0 < q ∨ p = 1) := by
  obtain ⟨h1, h2, h3, _, h5⟩ := of_decide_eq_true h
  exact ⟨h1, by unfold Ent; omega, h2, h5⟩
theorem implIsF_is (r : Bool) (p q : Int) (h : isF p q = r) (w : World) :
    Calls Try.prog 9 #[(.agg #[.int .i64 p, .int .i64 q])] w fun e w' => e = .returned (.bool r) ∧ Below w.heap.size w w' := h ▸ implIsF_any p q w
theorem l01Fraction_is (r : Bool) (p q : Int) (h : isF p q = r) (w : World) :
    Calls Try.prog 18 #[(.agg #[.int .i64 p, .int .i64 q])] w fun e w' => e = .returned (.bool r) ∧ Below w.heap.size w w' := h ▸ l01Fraction_any p q w

set_option maxHeartbeats 1000000 in
theorem implCmp_no1 (a b c d : Int) (h : isF a b = false) (w : World) :
    Calls Try.prog 14 #[(.agg #[.int .i64 a, .int .i64 b]), (.agg #[.int .i64 c, .int .i64 d])] w fun e w' => e = .returned (.tuple #[(.int .i64 0), (.int .i64 1)]) ∧ Below w.heap.size w w' := by
  have H := Lib.hid h
  clear h
  go_enter Try.func14, Try.ntmps14
  go_wp2_with fail
  refine (implIsF_is false _ _ H.out _).mono ?_
  rintro e w1 ⟨rfl, hb1⟩
  go_wp2
  go_ret2
  exact ⟨rfl, by repeat (first | with_reducible exact own_refl _ | with_reducible assumption | with_reducible apply own_alloc | with_reducible apply own_drewN | with_reducible apply own_drew | ((with_reducible refine own_setCell ?_ ?_ _); rotate_left; focus (first | (simp; done) | (simp; omega))) | (with_reducible (refine own_trans ?_ (by assumption))))⟩
set_option maxHeartbeats 1000000 in
theorem implCmp_no2 (a b c d : Int) (h : isF a b = true) (h' : isF c d = false) (w : World) :
    Calls Try.prog 14 #[(.agg #[.int .i64 a, .int .i64 b]), (.agg #[.int .i64 c, .int .i64 d])] w fun e w' => e = .returned (.tuple #[(.int .i64 0), (.int .i64 1)]) ∧ Below w.heap.size w w' := by
  have H := Lib.hid h
  have H' := Lib.hid h'
  clear h h'
  go_enter Try.func14, Try.ntmps14
  go_wp2_with fail
  refine (implIsF_is true _ _ H.out _).mono ?_
  rintro e w1 ⟨rfl, hb1⟩
  have Bw1_0 : Box w1 (w.heap.size + 1) [.int .i64 c, .int .i64 d] := by refine Box.below ?_ hb1; repeat (first | with_reducible assumption | with_reducible exact Box.new _ _ _ | (with_reducible refine Box.newAt ?_ _ _; (simp; done)) | with_reducible apply Box.alloc | with_reducible apply Box.drewN | with_reducible apply Box.drew)
  obtain ⟨_, _, _, _, _⟩ := Bw1_0.two
  go_wp2_with fail
  refine (implIsF_is false _ _ H'.out _).mono ?_
  rintro e w2 ⟨rfl, hb2⟩
  go_wp2
  go_ret2
  exact ⟨rfl, by repeat (first | with_reducible exact own_refl _ | with_reducible assumption | with_reducible apply own_alloc | with_reducible apply own_drewN | with_reducible apply own_drew | ((with_reducible refine own_setCell ?_ ?_ _); rotate_left; focus (first | (simp; done) | (simp; omega))) | (with_reducible (refine own_trans ?_ (by assumption))))⟩
set_option maxHeartbeats 1000000 in
theorem implCmp_yes (a b c d : Int) (h : isF a b = true) (h' : isF c d = true) (w : World) :
    Calls Try.prog 14 #[(.agg #[.int .i64 a, .int .i64 b]), (.agg #[.int .i64 c, .int .i64 d])] w fun e w' => e = .returned (.tuple #[(.int .i64 (sgn (a * d - c * b))), (.int .i64 0)]) ∧ Below w.heap.size w w' := by
  obtain ⟨ea, eb, _, _⟩ := isF_ent h
  obtain ⟨ec, ed, _, _⟩ := isF_ent h'
  obtain ⟨_, _⟩ := ent_mul ea ed
  obtain ⟨_, _⟩ := ent_mul ec eb
  have H := Lib.hid h
  have H' := Lib.hid h'
  clear h h' ea eb ec ed
  go_enter Try.func14, Try.ntmps14
  go_wp2_with fail
  refine (implIsF_is true _ _ H.out _).mono ?_
  rintro e w1 ⟨rfl, hb1⟩
  have Bw1_0 : Box w1 (w.heap.size) [.int .i64 a, .int .i64 b] := by refine Box.below ?_ hb1; repeat (first | with_reducible assumption | with_reducible exact Box.new _ _ _ | (with_reducible refine Box.newAt ?_ _ _; (simp; done)) | with_reducible apply Box.alloc | with_reducible apply Box.drewN | with_reducible apply Box.drew)
  obtain ⟨_, _, _, _, _⟩ := Bw1_0.two
  have Bw1_1 : Box w1 (w.heap.size + 1) [.int .i64 c, .int .i64 d] := by refine Box.below ?_ hb1; repeat (first | with_reducible assumption | with_reducible exact Box.new _ _ _ | (with_reducible refine Box.newAt ?_ _ _; (simp; done)) | with_reducible apply Box.alloc | with_reducible apply Box.drewN | with_reducible apply Box.drew)
  obtain ⟨_, _, _, _, _⟩ := Bw1_1.two
  go_wp2_with fail
  refine (implIsF_is true _ _ H'.out _).mono ?_
  rintro e w2 ⟨rfl, hb2⟩
  have Bw2_0 : Box w2 (w.heap.size) [.int .i64 a, .int .i64 b] := by refine Box.below ?_ hb2; repeat (first | with_reducible assumption | with_reducible exact Box.new _ _ _ | (with_reducible refine Box.newAt ?_ _ _; (simp; done)) | with_reducible apply Box.alloc | with_reducible apply Box.drewN | with_reducible apply Box.drew)
  obtain ⟨_, _, _, _, _⟩ := Bw2_0.two
  have Bw2_1 : Box w2 (w.heap.size + 1) [.int .i64 c, .int .i64 d] := by refine Box.below ?_ hb2; repeat (first | with_reducible assumption | with_reducible exact Box.new _ _ _ | (with_reducible refine Box.newAt ?_ _ _; (simp; done)) | with_reducible apply Box.alloc | with_reducible apply Box.drewN | with_reducible apply Box.drew)
  obtain ⟨_, _, _, _, _⟩ := Bw2_1.two
  go_wp2_with (go_at_call 25; refine (signOf_any _ _).mono ?_; rintro e w3 ⟨rfl, rfl⟩)
  go_ret2
  exact ⟨rfl, by repeat (first | with_reducible exact own_refl _ | with_reducible assumption | with_reducible apply own_alloc | with_reducible apply own_drewN | with_reducible apply own_drew | ((with_reducible refine own_setCell ?_ ?_ _); rotate_left; focus (first | (simp; done) | (simp; omega))) | (with_reducible (refine own_trans ?_ (by assumption))))⟩
end Go.Proofs.Ytamibhpaamhjmab
