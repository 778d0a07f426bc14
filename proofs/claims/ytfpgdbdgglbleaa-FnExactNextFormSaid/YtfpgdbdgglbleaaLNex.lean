/- The walk of the law FnExactNextForm. -/
import Derived.Test.YtfpgdbdgglbleaaLwNextForm
import Derived.Test.YtfpgdbdgglbleaaNex
namespace Go.Proofs.Ytfpgdbdgglbleaa
open Go.ChangeShapes Go.WideShapes Go.ChangeAt Go.RowKit

set_option maxHeartbeats 1000000 in
theorem implNF_no (a b c : Int) (h : isQ a b c = false) (w : World) :
    Calls Try.prog 27 #[(.agg #[.int .i64 a, .int .i64 b, .int .i64 c])] w fun e w' => e = .returned (.tuple #[(.agg #[.int .i64 0, .int .i64 0, .int .i64 0]), (.int .i64 1)]) ∧ Below w.heap.size w w' := by
  have H := Lib.hid h
  clear h
  go_enter Try.func27, Try.ntmps27
  go_wp2_with fail
  refine (implIsQ_is false _ _ _ H.out _).mono ?_
  rintro e w1 ⟨rfl, hb1⟩
  have Bw1_0 : Box w1 (w.heap.size + 1) [.int .i64 0, .int .i64 0, .int .i64 0] := by refine Box.below ?_ hb1; repeat (first | with_reducible assumption | with_reducible exact Box.new _ _ _ | (with_reducible refine Box.newAt ?_ _ _; (simp; done)) | with_reducible apply Box.alloc | with_reducible apply Box.drewN | with_reducible apply Box.drew)
  obtain ⟨_, _, _, _, _, _, _⟩ := Bw1_0.three
  go_wp2
  obtain ⟨_, e0, e1, e2, _, _, _⟩ := (Bw1_0.put3 (.int .i64 0) (.int .i64 0) (.int .i64 0)).three
  exact bodyPost_ret (v := .tuple #[(.agg #[.int .i64 0, .int .i64 0, .int .i64 0]), (.int .i64 1)]) (by simp [results, Try.results27, go_sem, e0, e1, e2]) rfl ⟨rfl, by repeat (first | with_reducible exact own_refl _ | with_reducible assumption | with_reducible apply own_alloc | with_reducible apply own_drewN | with_reducible apply own_drew | ((with_reducible refine own_setCell ?_ ?_ _); rotate_left; focus (first | (simp; done) | (simp; omega))) | (with_reducible (refine own_trans ?_ (by assumption))))⟩
set_option maxHeartbeats 1000000 in
theorem implNF_state (a b c : Int) (h : isQ a b c = true) (hn : ∀ w : World, Calls Try.prog 54 #[(.agg #[.int .i64 a, .int .i64 b, .int .i64 c])] w fun e w' => e = .returned (.bool false) ∧ Below w.heap.size w w') (w : World) :
    Calls Try.prog 27 #[(.agg #[.int .i64 a, .int .i64 b, .int .i64 c])] w fun e w' => e = .returned (.tuple #[(.agg #[.int .i64 0, .int .i64 0, .int .i64 0]), (.int .i64 5)]) ∧ Below w.heap.size w w' := by
  have H := Lib.hid h
  have HN := Lib.hid hn
  clear h hn
  go_enter Try.func27, Try.ntmps27
  go_wp2_with fail
  refine (implIsQ_is true _ _ _ H.out _).mono ?_
  rintro e w1 ⟨rfl, hb1⟩
  have Bw1_0 : Box w1 (w.heap.size) [.int .i64 a, .int .i64 b, .int .i64 c] := by refine Box.below ?_ hb1; repeat (first | with_reducible assumption | with_reducible exact Box.new _ _ _ | (with_reducible refine Box.newAt ?_ _ _; (simp; done)) | with_reducible apply Box.alloc | with_reducible apply Box.drewN | with_reducible apply Box.drew)
  obtain ⟨_, _, _, _, _, _, _⟩ := Bw1_0.three
  have Bw1_1 : Box w1 (w.heap.size + 1) [.int .i64 0, .int .i64 0, .int .i64 0] := by refine Box.below ?_ hb1; repeat (first | with_reducible assumption | with_reducible exact Box.new _ _ _ | (with_reducible refine Box.newAt ?_ _ _; (simp; done)) | with_reducible apply Box.alloc | with_reducible apply Box.drewN | with_reducible apply Box.drew)
  obtain ⟨_, _, _, _, _, _, _⟩ := Bw1_1.three
  go_wp2_with fail
  refine (HN.out _).mono ?_
  rintro e w2 ⟨rfl, hb2⟩
  have Bw2_0 : Box w2 (w.heap.size + 1) [.int .i64 0, .int .i64 0, .int .i64 0] := by refine Box.below ?_ hb2; repeat (first | with_reducible assumption | with_reducible exact Box.new _ _ _ | (with_reducible refine Box.newAt ?_ _ _; (simp; done)) | with_reducible apply Box.alloc | with_reducible apply Box.drewN | with_reducible apply Box.drew)
  obtain ⟨_, _, _, _, _, _, _⟩ := Bw2_0.three
  go_wp2
  obtain ⟨_, e0, e1, e2, _, _, _⟩ := (Bw2_0.put3 (.int .i64 0) (.int .i64 0) (.int .i64 0)).three
  exact bodyPost_ret (v := .tuple #[(.agg #[.int .i64 0, .int .i64 0, .int .i64 0]), (.int .i64 5)]) (by simp [results, Try.results27, go_sem, e0, e1, e2]) rfl ⟨rfl, by repeat (first | with_reducible exact own_refl _ | with_reducible assumption | with_reducible apply own_alloc | with_reducible apply own_drewN | with_reducible apply own_drew | ((with_reducible refine own_setCell ?_ ?_ _); rotate_left; focus (first | (simp; done) | (simp; omega))) | (with_reducible (refine own_trans ?_ (by assumption))))⟩
set_option maxHeartbeats 1000000 in
theorem implNF_yes (a b c u v z u' v' z' k : Int) (h : isQ a b c = true) (hn : ∀ w : World, Calls Try.prog 54 #[(.agg #[.int .i64 a, .int .i64 b, .int .i64 c])] w fun e w' => e = .returned (.bool true) ∧ Below w.heap.size w w')
    (hf : ∀ w : World, Calls Try.prog 55 #[(.agg #[.int .i64 a, .int .i64 b, .int .i64 c])] w fun e w' => e = .returned (.agg #[.int .i64 u, .int .i64 v, .int .i64 z]) ∧ Below w.heap.size w w')
    (hw : ∀ w : World, Calls Try.prog 44 #[(.agg #[.int .i64 u, .int .i64 v, .int .i64 z])] w fun e w' => e = .returned (.tuple #[(.agg #[.int .i64 u', .int .i64 v', .int .i64 z']), (.int .i64 k)]) ∧ Below w.heap.size w w') (w : World) :
    Calls Try.prog 27 #[(.agg #[.int .i64 a, .int .i64 b, .int .i64 c])] w fun e w' => e = .returned (.tuple #[(.agg #[.int .i64 u', .int .i64 v', .int .i64 z']), (.int .i64 k)]) ∧ Below w.heap.size w w' := by
  have H := Lib.hid h
  have HN := Lib.hid hn
  have HF := Lib.hid hf
  have HW := Lib.hid hw
  clear h hn hf hw
  go_enter Try.func27, Try.ntmps27
  go_wp2_with fail
  refine (implIsQ_is true _ _ _ H.out _).mono ?_
  rintro e w1 ⟨rfl, hb1⟩
  have Bw1_0 : Box w1 (w.heap.size) [.int .i64 a, .int .i64 b, .int .i64 c] := by refine Box.below ?_ hb1; repeat (first | with_reducible assumption | with_reducible exact Box.new _ _ _ | (with_reducible refine Box.newAt ?_ _ _; (simp; done)) | with_reducible apply Box.alloc | with_reducible apply Box.drewN | with_reducible apply Box.drew)
  obtain ⟨_, _, _, _, _, _, _⟩ := Bw1_0.three
  have Bw1_1 : Box w1 (w.heap.size + 1) [.int .i64 0, .int .i64 0, .int .i64 0] := by refine Box.below ?_ hb1; repeat (first | with_reducible assumption | with_reducible exact Box.new _ _ _ | (with_reducible refine Box.newAt ?_ _ _; (simp; done)) | with_reducible apply Box.alloc | with_reducible apply Box.drewN | with_reducible apply Box.drew)
  obtain ⟨_, _, _, _, _, _, _⟩ := Bw1_1.three
  go_wp2_with fail
  refine (HN.out _).mono ?_
  rintro e w2 ⟨rfl, hb2⟩
  have Bw2_0 : Box w2 (w.heap.size) [.int .i64 a, .int .i64 b, .int .i64 c] := by refine Box.below ?_ hb2; repeat (first | with_reducible assumption | with_reducible exact Box.new _ _ _ | (with_reducible refine Box.newAt ?_ _ _; (simp; done)) | with_reducible apply Box.alloc | with_reducible apply Box.drewN | with_reducible apply Box.drew)
  obtain ⟨_, _, _, _, _, _, _⟩ := Bw2_0.three
  have Bw2_1 : Box w2 (w.heap.size + 1) [.int .i64 0, .int .i64 0, .int .i64 0] := by refine Box.below ?_ hb2; repeat (first | with_reducible assumption | with_reducible exact Box.new _ _ _ | (with_reducible refine Box.newAt ?_ _ _; (simp; done)) | with_reducible apply Box.alloc | with_reducible apply Box.drewN | with_reducible apply Box.drew)
  obtain ⟨_, _, _, _, _, _, _⟩ := Bw2_1.three
  go_wp2_with fail
  refine (HF.out _).mono ?_
  rintro e w3 ⟨rfl, hb3⟩
  have Bw3_0 : Box w3 (w.heap.size + 1) [.int .i64 0, .int .i64 0, .int .i64 0] := by refine Box.below ?_ hb3; repeat (first | with_reducible assumption | with_reducible exact Box.new _ _ _ | (with_reducible refine Box.newAt ?_ _ _; (simp; done)) | with_reducible apply Box.alloc | with_reducible apply Box.drewN | with_reducible apply Box.drew)
  obtain ⟨_, _, _, _, _, _, _⟩ := Bw3_0.three
  go_wp2_with fail
  refine (HW.out _).mono ?_
  rintro e w4 ⟨rfl, hb4⟩
  have Bw4_0 : Box w4 (w.heap.size + 1) [.int .i64 0, .int .i64 0, .int .i64 0] := by refine Box.below ?_ hb4; repeat (first | with_reducible assumption | with_reducible exact Box.new _ _ _ | (with_reducible refine Box.newAt ?_ _ _; (simp; done)) | with_reducible apply Box.alloc | with_reducible apply Box.drewN | with_reducible apply Box.drew)
  obtain ⟨_, _, _, _, _, _, _⟩ := Bw4_0.three
  go_wp2
  obtain ⟨_, e0, e1, e2, _, _, _⟩ := (Bw4_0.put3 (.int .i64 u') (.int .i64 v') (.int .i64 z')).three
  exact bodyPost_ret (v := .tuple #[(.agg #[.int .i64 u', .int .i64 v', .int .i64 z']), (.int .i64 k)]) (by simp [results, Try.results27, go_sem, e0, e1, e2]) rfl ⟨rfl, by repeat (first | with_reducible exact own_refl _ | with_reducible assumption | with_reducible apply own_alloc | with_reducible apply own_drewN | with_reducible apply own_drew | ((with_reducible refine own_setCell ?_ ?_ _); rotate_left; focus (first | (simp; done) | (simp; omega))) | (with_reducible (refine own_trans ?_ (by assumption))))⟩

set_option maxHeartbeats 1000000 in
theorem l05Given_no (a b c : Int) (h : isQ a b c = false) (w : World) :
    Calls Try.prog 52 #[(.agg #[.int .i64 a, .int .i64 b, .int .i64 c])] w fun e w' => e = .returned (.int .i64 1) ∧ Below w.heap.size w w' := by
  have H := Lib.hid h
  clear h
  go_enter Try.func52, Try.ntmps52
  go_wp2_with fail
  refine (l05Is_is false _ _ _ H.out _).mono ?_
  rintro e w1 ⟨rfl, hb1⟩
  go_wp2
  go_ret
  exact ⟨rfl, by repeat (first | with_reducible exact own_refl _ | with_reducible assumption | with_reducible apply own_alloc | with_reducible apply own_drewN | with_reducible apply own_drew | ((with_reducible refine own_setCell ?_ ?_ _); rotate_left; focus (first | (simp; done) | (simp; omega))) | (with_reducible (refine own_trans ?_ (by assumption))))⟩
set_option maxHeartbeats 1000000 in
theorem l05Given_in (a b c : Int) (h : isQ a b c = true) (hi : indef a b c = false) (w : World) :
    Calls Try.prog 52 #[(.agg #[.int .i64 a, .int .i64 b, .int .i64 c])] w fun e w' => e = .returned (.int .i64 5) ∧ Below w.heap.size w w' := by
  have H := Lib.hid h
  obtain ⟨ha, hb, hc, _⟩ := isQ_fe h
  have HI := Lib.hid (fun w => l05Indefinite_is false a b c hi ha hb hc w)
  clear h hi ha hb hc
  go_enter Try.func52, Try.ntmps52
  go_wp2_with fail
  refine (l05Is_is true _ _ _ H.out _).mono ?_
  rintro e w1 ⟨rfl, hb1⟩
  have Bw1_0 : Box w1 (w.heap.size) [.int .i64 a, .int .i64 b, .int .i64 c] := by refine Box.below ?_ hb1; repeat (first | with_reducible assumption | with_reducible exact Box.new _ _ _ | (with_reducible refine Box.newAt ?_ _ _; (simp; done)) | with_reducible apply Box.alloc | with_reducible apply Box.drewN | with_reducible apply Box.drew)
  obtain ⟨_, _, _, _, _, _, _⟩ := Bw1_0.three
  go_wp2_with fail
  refine (HI.out _).mono ?_
  rintro e w2 ⟨rfl, hb2⟩
  go_wp2
  go_ret
  exact ⟨rfl, by repeat (first | with_reducible exact own_refl _ | with_reducible assumption | with_reducible apply own_alloc | with_reducible apply own_drewN | with_reducible apply own_drew | ((with_reducible refine own_setCell ?_ ?_ _); rotate_left; focus (first | (simp; done) | (simp; omega))) | (with_reducible (refine own_trans ?_ (by assumption))))⟩
set_option maxHeartbeats 1000000 in
theorem l05Given_is (t : Bool) (k : Int) (a b c : Int) (h : isQ a b c = true) (hi : indef a b c = true) (ht : rdI a b c = t) (hk : k = if t then 0 else 5) (w : World) :
    Calls Try.prog 52 #[(.agg #[.int .i64 a, .int .i64 b, .int .i64 c])] w fun e w' => e = .returned (.int .i64 k) ∧ Below w.heap.size w w' := by
  have H := Lib.hid h
  obtain ⟨ha, hb, hc, _⟩ := isQ_fe h
  have hp : 0 < disc a b c := by unfold indef at hi; simp at hi; omega
  have HI := Lib.hid (fun w => l05Indefinite_is true a b c hi ha hb hc w)
  have HR := Lib.hid (fun w => l05Red_I t a b c hp ht ha hb hc w)
  clear h hi ht hp ha hb hc
  cases t
  all_goals
    subst hk
    go_enter Try.func52, Try.ntmps52
    go_wp2_with fail
    refine (l05Is_is true _ _ _ H.out _).mono ?_
    rintro e w1 ⟨rfl, hb1⟩
    have Bw1_0 : Box w1 (w.heap.size) [.int .i64 a, .int .i64 b, .int .i64 c] := by refine Box.below ?_ hb1; repeat (first | with_reducible assumption | with_reducible exact Box.new _ _ _ | (with_reducible refine Box.newAt ?_ _ _; (simp; done)) | with_reducible apply Box.alloc | with_reducible apply Box.drewN | with_reducible apply Box.drew)
    obtain ⟨_, _, _, _, _, _, _⟩ := Bw1_0.three
    go_wp2_with fail
    refine (HI.out _).mono ?_
    rintro e w2 ⟨rfl, hb2⟩
    have Bw2_0 : Box w2 (w.heap.size) [.int .i64 a, .int .i64 b, .int .i64 c] := by refine Box.below ?_ hb2; repeat (first | with_reducible assumption | with_reducible exact Box.new _ _ _ | (with_reducible refine Box.newAt ?_ _ _; (simp; done)) | with_reducible apply Box.alloc | with_reducible apply Box.drewN | with_reducible apply Box.drew)
    obtain ⟨_, _, _, _, _, _, _⟩ := Bw2_0.three
    go_wp2_with fail
    refine (HR.out _).mono ?_
    rintro e w3 ⟨rfl, hb3⟩
    go_wp2
    go_ret
    exact ⟨rfl, by repeat (first | with_reducible exact own_refl _ | with_reducible assumption | with_reducible apply own_alloc | with_reducible apply own_drewN | with_reducible apply own_drew | ((with_reducible refine own_setCell ?_ ?_ _); rotate_left; focus (first | (simp; done) | (simp; omega))) | (with_reducible (refine own_trans ?_ (by assumption))))⟩

set_option maxHeartbeats 1000000 in
theorem specNF_no (k : Int) (a b c : Int) (hk : (k != 0) = true) (hg : ∀ w : World, Calls Try.prog 52 #[(.agg #[.int .i64 a, .int .i64 b, .int .i64 c])] w fun e w' => e = .returned (.int .i64 k) ∧ Below w.heap.size w w') (w : World) :
    Calls Try.prog 26 #[(.agg #[.int .i64 a, .int .i64 b, .int .i64 c])] w fun e w' => e = .returned (.tuple #[(.agg #[.int .i64 0, .int .i64 0, .int .i64 0]), (.int .i64 k)]) ∧ Below w.heap.size w w' := by
  have HG := Lib.hid hg
  clear hg
  go_enter Try.func26, Try.ntmps26
  go_wp2_with fail
  refine (HG.out _).mono ?_
  rintro e w1 ⟨rfl, hb1⟩
  have Bw1_0 : Box w1 (w.heap.size + 1) [.int .i64 0, .int .i64 0, .int .i64 0] := by refine Box.below ?_ hb1; repeat (first | with_reducible assumption | with_reducible exact Box.new _ _ _ | (with_reducible refine Box.newAt ?_ _ _; (simp; done)) | with_reducible apply Box.alloc | with_reducible apply Box.drewN | with_reducible apply Box.drew)
  obtain ⟨_, _, _, _, _, _, _⟩ := Bw1_0.three
  go_wp2
  obtain ⟨_, e0, e1, e2, _, _, _⟩ := (Bw1_0.put3 (.int .i64 0) (.int .i64 0) (.int .i64 0)).three
  exact bodyPost_ret (v := .tuple #[(.agg #[.int .i64 0, .int .i64 0, .int .i64 0]), (.int .i64 k)]) (by simp [results, Try.results26, go_sem, e0, e1, e2]) rfl ⟨rfl, by repeat (first | with_reducible exact own_refl _ | with_reducible assumption | with_reducible apply own_alloc | with_reducible apply own_drewN | with_reducible apply own_drew | ((with_reducible refine own_setCell ?_ ?_ _); rotate_left; focus (first | (simp; done) | (simp; omega))) | (with_reducible (refine own_trans ?_ (by assumption))))⟩
set_option maxHeartbeats 1000000 in
theorem specNF_yes (t : Bool) (a b c u v z u' v' z' k : Int) (hg : ∀ w : World, Calls Try.prog 52 #[(.agg #[.int .i64 a, .int .i64 b, .int .i64 c])] w fun e w' => e = .returned (.int .i64 0) ∧ Below w.heap.size w w')
    (hf : ∀ w : World, Calls Try.prog 53 #[(.agg #[.int .i64 a, .int .i64 b, .int .i64 c])] w fun e w' => e = .returned (.agg #[.int .i64 u, .int .i64 v, .int .i64 z]) ∧ Below w.heap.size w w')
    (ht : isQ u v z = t) (he : (t = true ∧ u' = u ∧ v' = v ∧ z' = z ∧ k = 0) ∨ (t = false ∧ u' = 0 ∧ v' = 0 ∧ z' = 0 ∧ k = 3)) (w : World) :
    Calls Try.prog 26 #[(.agg #[.int .i64 a, .int .i64 b, .int .i64 c])] w fun e w' => e = .returned (.tuple #[(.agg #[.int .i64 u', .int .i64 v', .int .i64 z']), (.int .i64 k)]) ∧ Below w.heap.size w w' := by
  have HG := Lib.hid hg
  have HT := Lib.hid ht
  have HF := Lib.hid hf
  clear hg hf ht
  rcases he with ⟨rfl, rfl, rfl, rfl, rfl⟩ | ⟨rfl, rfl, rfl, rfl, rfl⟩
  all_goals
    go_enter Try.func26, Try.ntmps26
    go_wp2_with fail
    refine (HG.out _).mono ?_
    rintro e w1 ⟨rfl, hb1⟩
    have Bw1_0 : Box w1 (w.heap.size) [.int .i64 a, .int .i64 b, .int .i64 c] := by refine Box.below ?_ hb1; repeat (first | with_reducible assumption | with_reducible exact Box.new _ _ _ | (with_reducible refine Box.newAt ?_ _ _; (simp; done)) | with_reducible apply Box.alloc | with_reducible apply Box.drewN | with_reducible apply Box.drew)
    obtain ⟨_, _, _, _, _, _, _⟩ := Bw1_0.three
    have Bw1_1 : Box w1 (w.heap.size + 1) [.int .i64 0, .int .i64 0, .int .i64 0] := by refine Box.below ?_ hb1; repeat (first | with_reducible assumption | with_reducible exact Box.new _ _ _ | (with_reducible refine Box.newAt ?_ _ _; (simp; done)) | with_reducible apply Box.alloc | with_reducible apply Box.drewN | with_reducible apply Box.drew)
    obtain ⟨_, _, _, _, _, _, _⟩ := Bw1_1.three
    go_wp2_with fail
    refine (HF.out _).mono ?_
    rintro e w2 ⟨rfl, hb2⟩
    have BZ : Box w2 (w.heap.size + 1) [.int .i64 0, .int .i64 0, .int .i64 0] := Bw1_1.below hb2
    go_wp2_with fail
    refine (l05Is_is _ _ _ _ HT.out _).mono ?_
    rintro e w3 ⟨rfl, hb3⟩
    have BZ := (Box.alloc BZ _).below hb3
    have BN := Box.below (Box.new _ _ _) hb3
    have n1 := BN.1
    obtain ⟨_, _, _, _, _, _, _⟩ := BZ.three
    obtain ⟨_, _, _, _, _, _, _⟩ := BN.three
    go_wp2_with fail
  · obtain ⟨_, e0, e1, e2, _, _, _⟩ := (BZ.put3 (.int .i64 u') (.int .i64 v') (.int .i64 z')).three
    exact bodyPost_ret (v := .tuple #[(.agg #[.int .i64 u', .int .i64 v', .int .i64 z']), (.int .i64 0)]) (by simp [results, Try.results26, go_sem, e0, e1, e2]) rfl ⟨rfl, by repeat (first | with_reducible exact own_refl _ | with_reducible assumption | with_reducible apply own_alloc | with_reducible apply own_drewN | with_reducible apply own_drew | ((with_reducible refine own_setCell ?_ ?_ _); rotate_left; focus (first | (simp; done) | (simp; omega))) | (with_reducible (refine own_trans ?_ (by assumption))))⟩
  · obtain ⟨_, e0, e1, e2, _, _, _⟩ := (BZ.put3 (.int .i64 0) (.int .i64 0) (.int .i64 0)).three
    exact bodyPost_ret (v := .tuple #[(.agg #[.int .i64 0, .int .i64 0, .int .i64 0]), (.int .i64 3)]) (by simp [results, Try.results26, go_sem, e0, e1, e2]) rfl ⟨rfl, by repeat (first | with_reducible exact own_refl _ | with_reducible assumption | with_reducible apply own_alloc | with_reducible apply own_drewN | with_reducible apply own_drew | ((with_reducible refine own_setCell ?_ ?_ _); rotate_left; focus (first | (simp; done) | (simp; omega))) | (with_reducible (refine own_trans ?_ (by assumption))))⟩
theorem lawNextForm_walk (a b c : Int) (_ : I64 a) (_ : I64 b) (_ : I64 c) (w : World) :
    Calls Try.prog 9 #[(.agg #[.int .i64 a, .int .i64 b, .int .i64 c])] w fun e w' => e = .returned (.bool true) ∧ Below w.heap.size w w' := by
  rcases h : isQ a b c with _ | _
  · exact lawNextForm_of a b c 0 0 0 1 (fun w => specNF_no 1 a b c rfl (fun w => l05Given_no a b c h w) w) (fun w => implNF_no a b c h w) w
  obtain ⟨ha, hb, hc, _⟩ := isQ_fe h
  rcases hi : indef a b c with _ | _
  · exact lawNextForm_of a b c 0 0 0 5 (fun w => specNF_no 5 a b c rfl (fun w => l05Given_in a b c h hi w) w) (fun w => implNF_state a b c h (fun w => isRI_no a b c hi ha hb hc w) w) w
  rcases ht : rdI a b c with _ | _
  · exact lawNextForm_of a b c 0 0 0 5 (fun w => specNF_no 5 a b c rfl (fun w => l05Given_is false 5 a b c h hi ht rfl w) w) (fun w => implNF_state a b c h (fun w => isRI_is false a b c hi ht ha hb hc w) w) w
  have hb0 : 0 < b := by unfold rdI redI at ht; simp at ht; exact ht.1
  have hc0 := indef_c hi
  have hp : 0 < disc a b c := by unfold indef at hi; simp at hi; omega
  obtain ⟨r, hr⟩ := root_ex (disc a b c) (by omega)
  have he := isQ_of (a := c) (b := nx1 b c r) (c := nx2 b c r (disc a b c)) (fun k => hc0 k.1)
  rcases hw : allW [c, nx1 b c r, nx2 b c r (disc a b c)] 1000000 with _ | _
  · exact lawNextForm_of a b c 0 0 0 3
      (fun w => specNF_yes false a b c _ _ _ 0 0 0 3 (fun w => l05Given_is true 0 a b c h hi ht rfl w) (fun w => l05Next_is a b c _ r rfl hr hb0 hc0 ha hb hc w) (he.trans hw) (.inr ⟨rfl, rfl, rfl, rfl, rfl⟩) w)
      (fun w => implNF_yes a b c _ _ _ 0 0 0 3 h (fun w => isRI_is true a b c hi ht ha hb hc w) (fun w => formBehind_is a b c _ r rfl hr hb0 hc0 ha hb hc w) (fun w => withinMaxForm_no _ _ _ hw w) w) w
  · exact lawNextForm_of a b c _ _ _ 0
      (fun w => specNF_yes true a b c _ _ _ _ _ _ 0 (fun w => l05Given_is true 0 a b c h hi ht rfl w) (fun w => l05Next_is a b c _ r rfl hr hb0 hc0 ha hb hc w) (he.trans hw) (.inl ⟨rfl, rfl, rfl, rfl, rfl⟩) w)
      (fun w => implNF_yes a b c _ _ _ _ _ _ 0 h (fun w => isRI_is true a b c hi ht ha hb hc w) (fun w => formBehind_is a b c _ r rfl hr hb0 hc0 ha hb hc w) (fun w => withinMaxForm_yes _ _ _ hw w) w) w
end Go.Proofs.Ytfpgdbdgglbleaa
