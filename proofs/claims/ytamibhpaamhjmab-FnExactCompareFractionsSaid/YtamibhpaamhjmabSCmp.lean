/- The spec's side of CompareFractions, and the law. -/
import Derived.Test.YtamibhpaamhjmabCmp
import Derived.Test.YtamibhpaamhjmabF
import Derived.Test.YtamibhpaamhjmabLoCompareFractions
namespace Go.Proofs.Ytamibhpaamhjmab
open Go.ChangeShapes Go.WideShapes Go.ChangeAt Go.RowKit

def less (a b c d : Int) : Bool := if b = 0 ∨ d = 0 then decide (0 < b ∧ d = 0) else decide (a * d < c * b)
set_option maxHeartbeats 1000000 in
theorem l01Less_any (a b c d : Int) (ea : Ent a) (eb : Ent b) (ec : Ent c) (ed : Ent d) (hb : 0 ≤ b) (_ : 0 ≤ d) (w : World) :
    Calls Try.prog 24 #[(.agg #[.int .i64 a, .int .i64 b]), (.agg #[.int .i64 c, .int .i64 d])] w fun e w' => e = .returned (.bool (less a b c d)) ∧ Below w.heap.size w w' := by
  obtain ⟨_, _⟩ := ent_mul ea ed
  obtain ⟨_, _⟩ := ent_mul ec eb
  unfold less
  by_cases hb0 : b = 0
  · rw [if_pos (.inl hb0)]
    have H := Lib.hid (show (decide (0 < b) && decide (d = 0)) = false by simp [hb0])
    have h1 : (b == 0) = true := by simp [hb0]
    have h2 : ¬ 0 < b := by omega
    clear hb0
    go_enter Try.func24, Try.ntmps24
    go_wp2
    go_ret
    exact ⟨ret_bool (by simpa using H.out.symm), by repeat (first | with_reducible exact own_refl _ | with_reducible assumption | with_reducible apply own_alloc | with_reducible apply own_drewN | with_reducible apply own_drew | ((with_reducible refine own_setCell ?_ ?_ _); rotate_left; focus (first | (simp; done) | (simp; omega))) | (with_reducible (refine own_trans ?_ (by assumption))))⟩
  · by_cases hd0 : d = 0
    · rw [if_pos (.inr hd0)]
      have H := Lib.hid (show (decide (0 < b) && decide (d = 0)) = true by simp [hd0]; omega)
      have h1 : (b == 0) = false := by simp [hb0]
      have h2 : (d == 0) = true := by simp [hd0]
      have h3 : 0 < b := by omega
      clear hb0 hd0
      go_enter Try.func24, Try.ntmps24
      go_wp2
      go_ret
      exact ⟨ret_bool (by simpa using H.out.symm), by repeat (first | with_reducible exact own_refl _ | with_reducible assumption | with_reducible apply own_alloc | with_reducible apply own_drewN | with_reducible apply own_drew | ((with_reducible refine own_setCell ?_ ?_ _); rotate_left; focus (first | (simp; done) | (simp; omega))) | (with_reducible (refine own_trans ?_ (by assumption))))⟩
    · rw [if_neg (by simp [hb0, hd0])]
      have h1 : (b == 0) = false := by simp [hb0]
      have h2 : (d == 0) = false := by simp [hd0]
      clear hb0 hd0
      go_enter Try.func24, Try.ntmps24
      go_wp2
      go_ret
      exact ⟨rfl, by repeat (first | with_reducible exact own_refl _ | with_reducible assumption | with_reducible apply own_alloc | with_reducible apply own_drewN | with_reducible apply own_drew | ((with_reducible refine own_setCell ?_ ?_ _); rotate_left; focus (first | (simp; done) | (simp; omega))) | (with_reducible (refine own_trans ?_ (by assumption))))⟩
theorem less_sgn (a b c d : Int) (hb : 0 ≤ b) (hd : 0 ≤ d) (ha : 0 < b ∨ a = 1) (hc : 0 < d ∨ c = 1) :
    sgn (a * d - c * b) = if less a b c d = true then -1 else if less c d a b = true then 1 else 0 := by
  unfold sgn less
  by_cases hb0 : b = 0
  · subst hb0
    have : a = 1 := by omega
    subst this
    by_cases hd0 : d = 0
    · subst hd0; simp
    · have : 0 < d := by omega
      simp [this]
      omega
  · by_cases hd0 : d = 0
    · subst hd0
      have : c = 1 := by omega
      subst this
      have : 0 < b := by omega
      simp [this]
    · simp only [hb0, hd0, or_self, if_false, decide_eq_true_eq]
      rcases (show a * d < c * b ∨ c * b < a * d ∨ a * d = c * b by omega) with h | h | h
      · rw [if_pos (by omega), if_pos h]
      · rw [if_neg (by omega), if_pos (by omega), if_neg (by omega), if_pos h]
      · rw [if_neg (by omega), if_neg (by omega), if_neg (by omega), if_neg (by omega)]
theorem less_is (r : Bool) (a b c d : Int) (ea : Ent a) (eb : Ent b) (ec : Ent c) (ed : Ent d) (hb : 0 ≤ b) (hd : 0 ≤ d) (h : less a b c d = r) (w : World) :
    Calls Try.prog 24 #[(.agg #[.int .i64 a, .int .i64 b]), (.agg #[.int .i64 c, .int .i64 d])] w fun e w' => e = .returned (.bool r) ∧ Below w.heap.size w w' := h ▸ l01Less_any a b c d ea eb ec ed hb hd w

set_option maxHeartbeats 1000000 in
theorem specCmp_no1 (a b c d : Int) (h : isF a b = false) (w : World) :
    Calls Try.prog 13 #[(.agg #[.int .i64 a, .int .i64 b]), (.agg #[.int .i64 c, .int .i64 d])] w fun e w' => e = .returned (.tuple #[(.int .i64 0), (.int .i64 1)]) ∧ Below w.heap.size w w' := by
  have H := Lib.hid h
  clear h
  go_enter Try.func13, Try.ntmps13
  go_wp2_with fail
  refine (l01Fraction_is false _ _ H.out _).mono ?_
  rintro e w1 ⟨rfl, hb1⟩
  go_wp2
  go_ret2
  exact ⟨rfl, by repeat (first | with_reducible exact own_refl _ | with_reducible assumption | with_reducible apply own_alloc | with_reducible apply own_drewN | with_reducible apply own_drew | ((with_reducible refine own_setCell ?_ ?_ _); rotate_left; focus (first | (simp; done) | (simp; omega))) | (with_reducible (refine own_trans ?_ (by assumption))))⟩
set_option maxHeartbeats 1000000 in
theorem specCmp_no2 (a b c d : Int) (h : isF a b = true) (h' : isF c d = false) (w : World) :
    Calls Try.prog 13 #[(.agg #[.int .i64 a, .int .i64 b]), (.agg #[.int .i64 c, .int .i64 d])] w fun e w' => e = .returned (.tuple #[(.int .i64 0), (.int .i64 1)]) ∧ Below w.heap.size w w' := by
  have H := Lib.hid h
  have H' := Lib.hid h'
  clear h h'
  go_enter Try.func13, Try.ntmps13
  go_wp2_with fail
  refine (l01Fraction_is true _ _ H.out _).mono ?_
  rintro e w1 ⟨rfl, hb1⟩
  have Bw1_0 : Box w1 (w.heap.size + 1) [.int .i64 c, .int .i64 d] := by refine Box.below ?_ hb1; repeat (first | with_reducible assumption | with_reducible exact Box.new _ _ _ | (with_reducible refine Box.newAt ?_ _ _; (simp; done)) | with_reducible apply Box.alloc | with_reducible apply Box.drewN | with_reducible apply Box.drew)
  obtain ⟨_, _, _, _, _⟩ := Bw1_0.two
  go_wp2_with fail
  refine (l01Fraction_is false _ _ H'.out _).mono ?_
  rintro e w2 ⟨rfl, hb2⟩
  go_wp2
  go_ret2
  exact ⟨rfl, by repeat (first | with_reducible exact own_refl _ | with_reducible assumption | with_reducible apply own_alloc | with_reducible apply own_drewN | with_reducible apply own_drew | ((with_reducible refine own_setCell ?_ ?_ _); rotate_left; focus (first | (simp; done) | (simp; omega))) | (with_reducible (refine own_trans ?_ (by assumption))))⟩
set_option maxHeartbeats 2000000 in
theorem specCmp_yes (a b c d k : Int) (h : isF a b = true) (h' : isF c d = true) (hk : k = if less a b c d = true then -1 else if less c d a b = true then 1 else 0) (w : World) :
    Calls Try.prog 13 #[(.agg #[.int .i64 a, .int .i64 b]), (.agg #[.int .i64 c, .int .i64 d])] w fun e w' => e = .returned (.tuple #[(.int .i64 k), (.int .i64 0)]) ∧ Below w.heap.size w w' := by
  obtain ⟨ea, eb, hb, _⟩ := isF_ent h
  obtain ⟨ec, ed, hd, _⟩ := isF_ent h'
  have H := Lib.hid h
  have H' := Lib.hid h'
  clear h h'
  rcases h1 : less a b c d with _ | _
  · rcases h2 : less c d a b with _ | _
    all_goals
      have H1 := Lib.hid h1
      have H2 := Lib.hid h2
      simp [h1, h2] at hk
      subst hk
      clear h1 h2
      go_enter Try.func13, Try.ntmps13
      go_wp2_with fail
      refine (l01Fraction_is true _ _ H.out _).mono ?_
      rintro e w1 ⟨rfl, hb1⟩
      have Bw1_0 : Box w1 (w.heap.size) [.int .i64 a, .int .i64 b] := by refine Box.below ?_ hb1; repeat (first | with_reducible assumption | with_reducible exact Box.new _ _ _ | (with_reducible refine Box.newAt ?_ _ _; (simp; done)) | with_reducible apply Box.alloc | with_reducible apply Box.drewN | with_reducible apply Box.drew)
      obtain ⟨_, _, _, _, _⟩ := Bw1_0.two
      have Bw1_1 : Box w1 (w.heap.size + 1) [.int .i64 c, .int .i64 d] := by refine Box.below ?_ hb1; repeat (first | with_reducible assumption | with_reducible exact Box.new _ _ _ | (with_reducible refine Box.newAt ?_ _ _; (simp; done)) | with_reducible apply Box.alloc | with_reducible apply Box.drewN | with_reducible apply Box.drew)
      obtain ⟨_, _, _, _, _⟩ := Bw1_1.two
      go_wp2_with fail
      refine (l01Fraction_is true _ _ H'.out _).mono ?_
      rintro e w2 ⟨rfl, hb2⟩
      have Bw2_0 : Box w2 (w.heap.size) [.int .i64 a, .int .i64 b] := by refine Box.below ?_ hb2; repeat (first | with_reducible assumption | with_reducible exact Box.new _ _ _ | (with_reducible refine Box.newAt ?_ _ _; (simp; done)) | with_reducible apply Box.alloc | with_reducible apply Box.drewN | with_reducible apply Box.drew)
      obtain ⟨_, _, _, _, _⟩ := Bw2_0.two
      have Bw2_1 : Box w2 (w.heap.size + 1) [.int .i64 c, .int .i64 d] := by refine Box.below ?_ hb2; repeat (first | with_reducible assumption | with_reducible exact Box.new _ _ _ | (with_reducible refine Box.newAt ?_ _ _; (simp; done)) | with_reducible apply Box.alloc | with_reducible apply Box.drewN | with_reducible apply Box.drew)
      obtain ⟨_, _, _, _, _⟩ := Bw2_1.two
      go_wp2_with fail
      refine (less_is false _ _ _ _ ea eb ec ed hb hd H1.out _).mono ?_
      rintro e w3 ⟨rfl, hb3⟩
      have Bw3_0 : Box w3 (w.heap.size) [.int .i64 a, .int .i64 b] := by refine Box.below ?_ hb3; repeat (first | with_reducible assumption | with_reducible exact Box.new _ _ _ | (with_reducible refine Box.newAt ?_ _ _; (simp; done)) | with_reducible apply Box.alloc | with_reducible apply Box.drewN | with_reducible apply Box.drew)
      obtain ⟨_, _, _, _, _⟩ := Bw3_0.two
      have Bw3_1 : Box w3 (w.heap.size + 1) [.int .i64 c, .int .i64 d] := by refine Box.below ?_ hb3; repeat (first | with_reducible assumption | with_reducible exact Box.new _ _ _ | (with_reducible refine Box.newAt ?_ _ _; (simp; done)) | with_reducible apply Box.alloc | with_reducible apply Box.drewN | with_reducible apply Box.drew)
      obtain ⟨_, _, _, _, _⟩ := Bw3_1.two
      go_wp2_with fail
      refine (less_is _ _ _ _ _ ec ed ea eb hd hb H2.out _).mono ?_
      rintro e w4 ⟨rfl, hb4⟩
      go_wp2
      go_ret2
      exact ⟨rfl, by repeat (first | with_reducible exact own_refl _ | with_reducible assumption | with_reducible apply own_alloc | with_reducible apply own_drewN | with_reducible apply own_drew | ((with_reducible refine own_setCell ?_ ?_ _); rotate_left; focus (first | (simp; done) | (simp; omega))) | (with_reducible (refine own_trans ?_ (by assumption))))⟩
  · have H1 := Lib.hid h1
    simp [h1] at hk
    subst hk
    clear h1
    go_enter Try.func13, Try.ntmps13
    go_wp2_with fail
    refine (l01Fraction_is true _ _ H.out _).mono ?_
    rintro e w1 ⟨rfl, hb1⟩
    have Bw1_0 : Box w1 (w.heap.size) [.int .i64 a, .int .i64 b] := by refine Box.below ?_ hb1; repeat (first | with_reducible assumption | with_reducible exact Box.new _ _ _ | (with_reducible refine Box.newAt ?_ _ _; (simp; done)) | with_reducible apply Box.alloc | with_reducible apply Box.drewN | with_reducible apply Box.drew)
    obtain ⟨_, _, _, _, _⟩ := Bw1_0.two
    have Bw1_1 : Box w1 (w.heap.size + 1) [.int .i64 c, .int .i64 d] := by refine Box.below ?_ hb1; repeat (first | with_reducible assumption | with_reducible exact Box.new _ _ _ | (with_reducible refine Box.newAt ?_ _ _; (simp; done)) | with_reducible apply Box.alloc | with_reducible apply Box.drewN | with_reducible apply Box.drew)
    obtain ⟨_, _, _, _, _⟩ := Bw1_1.two
    go_wp2_with fail
    refine (l01Fraction_is true _ _ H'.out _).mono ?_
    rintro e w2 ⟨rfl, hb2⟩
    have Bw2_0 : Box w2 (w.heap.size) [.int .i64 a, .int .i64 b] := by refine Box.below ?_ hb2; repeat (first | with_reducible assumption | with_reducible exact Box.new _ _ _ | (with_reducible refine Box.newAt ?_ _ _; (simp; done)) | with_reducible apply Box.alloc | with_reducible apply Box.drewN | with_reducible apply Box.drew)
    obtain ⟨_, _, _, _, _⟩ := Bw2_0.two
    have Bw2_1 : Box w2 (w.heap.size + 1) [.int .i64 c, .int .i64 d] := by refine Box.below ?_ hb2; repeat (first | with_reducible assumption | with_reducible exact Box.new _ _ _ | (with_reducible refine Box.newAt ?_ _ _; (simp; done)) | with_reducible apply Box.alloc | with_reducible apply Box.drewN | with_reducible apply Box.drew)
    obtain ⟨_, _, _, _, _⟩ := Bw2_1.two
    go_wp2_with fail
    refine (less_is true _ _ _ _ ea eb ec ed hb hd H1.out _).mono ?_
    rintro e w3 ⟨rfl, hb3⟩
    go_wp2
    go_ret2
    exact ⟨rfl, by repeat (first | with_reducible exact own_refl _ | with_reducible assumption | with_reducible apply own_alloc | with_reducible apply own_drewN | with_reducible apply own_drew | ((with_reducible refine own_setCell ?_ ?_ _); rotate_left; focus (first | (simp; done) | (simp; omega))) | (with_reducible (refine own_trans ?_ (by assumption))))⟩

theorem lawCompareFractions_walk (a b c d : Int) (_ : I64 a) (_ : I64 b) (_ : I64 c) (_ : I64 d) (w : World) :
    Calls Try.prog 5 #[(.agg #[.int .i64 a, .int .i64 b]), (.agg #[.int .i64 c, .int .i64 d])] w fun e w' => e = .returned (.bool true) ∧ Below w.heap.size w w' := by
  rcases h : isF a b with _ | _
  · exact lawCompareFractions_of a b c d 0 1 (fun w => specCmp_no1 a b c d h w) (fun w => implCmp_no1 a b c d h w) w
  · rcases h' : isF c d with _ | _
    · exact lawCompareFractions_of a b c d 0 1 (fun w => specCmp_no2 a b c d h h' w) (fun w => implCmp_no2 a b c d h h' w) w
    · obtain ⟨_, _, hb, hb1⟩ := isF_ent h
      obtain ⟨_, _, hd, hd1⟩ := isF_ent h'
      exact lawCompareFractions_of a b c d _ 0 (fun w => specCmp_yes a b c d _ h h' (less_sgn a b c d hb hd hb1 hd1) w) (fun w => implCmp_yes a b c d h h' w) w
end Go.Proofs.Ytamibhpaamhjmab
