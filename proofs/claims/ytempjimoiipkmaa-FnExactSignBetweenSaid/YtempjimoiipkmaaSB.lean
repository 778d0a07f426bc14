/- The walk of the law FnExactSignBetween. -/
import Derived.Test.YtempjimoiipkmaaLoSignBetween
import Derived.Test.YtempjimoiipkmaaEqM
namespace Go.Proofs.Ytempjimoiipkmaa
open Go.ChangeShapes Go.WideShapes Go.ChangeAt Go.RowKit

set_option maxHeartbeats 1000000 in
theorem implNeg_ent (a b c d : Int) (ha : Ent a) (hb : Ent b) (hc : Ent c) (hd : Ent d) (w : World) :
    Calls Try.prog 21 #[(.agg #[.int .i64 a, .int .i64 b, .int .i64 c, .int .i64 d])] w fun e w' => e = .returned (.agg #[.int .i64 (-a), .int .i64 (-b), .int .i64 (-c), .int .i64 (-d)]) ∧ Below w.heap.size w w' := by
  obtain ⟨_, _⟩ := ha
  obtain ⟨_, _⟩ := hb
  obtain ⟨_, _⟩ := hc
  obtain ⟨_, _⟩ := hd
  go_enter Try.func21, Try.ntmps21
  go_wp2
  exact bodyPost_ret (v := (.agg #[.int .i64 (-a), .int .i64 (-b), .int .i64 (-c), .int .i64 (-d)])) (by simp [results, Try.results21, go_sem]) rfl ⟨rfl, by repeat (first | with_reducible exact own_refl _ | with_reducible assumption | with_reducible apply own_alloc | with_reducible apply own_drewN | with_reducible apply own_drew | ((with_reducible refine own_setCell ?_ ?_ _); rotate_left; focus (first | (simp; done) | (simp; omega))) | (with_reducible (refine own_trans ?_ (by assumption))))⟩

set_option maxHeartbeats 1000000 in
theorem specNeg_ent (a b c d : Int) (ha : Ent a) (hb : Ent b) (hc : Ent c) (hd : Ent d) (w : World) :
    Calls Try.prog 20 #[(.agg #[.int .i64 a, .int .i64 b, .int .i64 c, .int .i64 d])] w fun e w' => e = .returned (.agg #[.int .i64 (-a), .int .i64 (-b), .int .i64 (-c), .int .i64 (-d)]) ∧ Below w.heap.size w w' := by
  obtain ⟨_, _⟩ := ha
  obtain ⟨_, _⟩ := hb
  obtain ⟨_, _⟩ := hc
  obtain ⟨_, _⟩ := hd
  go_enter Try.func20, Try.ntmps20
  go_wp2
  exact bodyPost_ret (v := (.agg #[.int .i64 (-a), .int .i64 (-b), .int .i64 (-c), .int .i64 (-d)])) (by simp [results, Try.results20, go_sem]) rfl ⟨rfl, by repeat (first | with_reducible exact own_refl _ | with_reducible assumption | with_reducible apply own_alloc | with_reducible apply own_drewN | with_reducible apply own_drew | ((with_reducible refine own_setCell ?_ ?_ _); rotate_left; focus (first | (simp; done) | (simp; omega))) | (with_reducible (refine own_trans ?_ (by assumption))))⟩

set_option maxHeartbeats 1000000 in
theorem implSign_no1 (a b c d e f g h : Int) (hm : isM a b c d = false) (w : World) :
    Calls Try.prog 10 #[(.agg #[.int .i64 a, .int .i64 b, .int .i64 c, .int .i64 d]), (.agg #[.int .i64 e, .int .i64 f, .int .i64 g, .int .i64 h])] w fun r w' => r = .returned (.tuple #[(.int .i64 0), (.int .i64 1)]) ∧ Below w.heap.size w w' := by
  have H := Lib.hid hm
  clear hm
  go_enter Try.func10, Try.ntmps10
  go_wp2_with fail
  refine (implIs_is false _ _ _ _ _ H.out).mono ?_
  rintro r w1 ⟨rfl, hb1⟩
  go_wp2
  go_ret2
  exact ⟨rfl, by repeat (first | with_reducible exact own_refl _ | with_reducible assumption | with_reducible apply own_alloc | with_reducible apply own_drewN | with_reducible apply own_drew | ((with_reducible refine own_setCell ?_ ?_ _); rotate_left; focus (first | (simp; done) | (simp; omega))) | (with_reducible (refine own_trans ?_ (by assumption))))⟩
set_option maxHeartbeats 1000000 in
theorem implSign_no2 (a b c d e f g h : Int) (hm : isM a b c d = true) (hn : isM e f g h = false) (w : World) :
    Calls Try.prog 10 #[(.agg #[.int .i64 a, .int .i64 b, .int .i64 c, .int .i64 d]), (.agg #[.int .i64 e, .int .i64 f, .int .i64 g, .int .i64 h])] w fun r w' => r = .returned (.tuple #[(.int .i64 0), (.int .i64 1)]) ∧ Below w.heap.size w w' := by
  have H := Lib.hid hm
  have HN := Lib.hid hn
  clear hm hn
  go_enter Try.func10, Try.ntmps10
  go_wp2_with fail
  refine (implIs_is true _ _ _ _ _ H.out).mono ?_
  rintro r w1 ⟨rfl, hb1⟩
  have A1 : Box w1 w.heap.size [.int .i64 a, .int .i64 b, .int .i64 c, .int .i64 d] := Box.below (Box.alloc (Box.new _ _ _) _) hb1
  have B1 : Box w1 (w.heap.size + 1) [.int .i64 e, .int .i64 f, .int .i64 g, .int .i64 h] := Box.below (Box.newAt (by simp) _ _) hb1
  obtain ⟨_, _, _, _, _, _, _, _, _⟩ := B1.four
  go_wp2_with fail
  refine (implIs_is false _ _ _ _ _ HN.out).mono ?_
  rintro r w2 ⟨rfl, hb2⟩
  go_wp2
  go_ret2
  exact ⟨rfl, by repeat (first | with_reducible exact own_refl _ | with_reducible assumption | with_reducible apply own_alloc | with_reducible apply own_drewN | with_reducible apply own_drew | ((with_reducible refine own_setCell ?_ ?_ _); rotate_left; focus (first | (simp; done) | (simp; omega))) | (with_reducible (refine own_trans ?_ (by assumption))))⟩
set_option maxHeartbeats 1000000 in
theorem implSign_same (a b c d e f g h : Int) (hm : isM a b c d = true) (hn : isM e f g h = true) (h1 : decide (a = e ∧ b = f ∧ c = g ∧ d = h) = true) (w : World) :
    Calls Try.prog 10 #[(.agg #[.int .i64 a, .int .i64 b, .int .i64 c, .int .i64 d]), (.agg #[.int .i64 e, .int .i64 f, .int .i64 g, .int .i64 h])] w fun r w' => r = .returned (.tuple #[(.int .i64 1), (.int .i64 0)]) ∧ Below w.heap.size w w' := by
  have H := Lib.hid hm
  have HN := Lib.hid hn
  have q1 := fun w => eq_mat_is true a b c d e f g h h1 w
  clear hm hn h1
  go_enter Try.func10, Try.ntmps10
  go_wp2_with fail
  refine (implIs_is true _ _ _ _ _ H.out).mono ?_
  rintro r w1 ⟨rfl, hb1⟩
  have A1 : Box w1 w.heap.size [.int .i64 a, .int .i64 b, .int .i64 c, .int .i64 d] := Box.below (Box.alloc (Box.new _ _ _) _) hb1
  have B1 : Box w1 (w.heap.size + 1) [.int .i64 e, .int .i64 f, .int .i64 g, .int .i64 h] := Box.below (Box.newAt (by simp) _ _) hb1
  obtain ⟨_, _, _, _, _, _, _, _, _⟩ := B1.four
  go_wp2_with fail
  refine (implIs_is true _ _ _ _ _ HN.out).mono ?_
  rintro r w2 ⟨rfl, hb2⟩
  have A2 := A1.below hb2
  have B2 := B1.below hb2
  obtain ⟨_, _, _, _, _, _, _, _, _⟩ := A2.four
  obtain ⟨_, _, _, _, _, _, _, _, _⟩ := B2.four
  go_wp2
  go_ret2
  exact ⟨rfl, by repeat (first | with_reducible exact own_refl _ | with_reducible assumption | with_reducible apply own_alloc | with_reducible apply own_drewN | with_reducible apply own_drew | ((with_reducible refine own_setCell ?_ ?_ _); rotate_left; focus (first | (simp; done) | (simp; omega))) | (with_reducible (refine own_trans ?_ (by assumption))))⟩
set_option maxHeartbeats 1000000 in
theorem implSign_neg (a b c d e f g h : Int) (hm : isM a b c d = true) (hn : isM e f g h = true) (h1 : decide (a = e ∧ b = f ∧ c = g ∧ d = h) = false) (h2 : decide (a = -e ∧ b = -f ∧ c = -g ∧ d = -h) = true) (w : World) :
    Calls Try.prog 10 #[(.agg #[.int .i64 a, .int .i64 b, .int .i64 c, .int .i64 d]), (.agg #[.int .i64 e, .int .i64 f, .int .i64 g, .int .i64 h])] w fun r w' => r = .returned (.tuple #[(.int .i64 (-1)), (.int .i64 0)]) ∧ Below w.heap.size w w' := by
  have H := Lib.hid hm
  have HN := Lib.hid hn
  obtain ⟨ee, ef, eg, eh, _⟩ := isM_ent hn
  have q1 := fun w => eq_mat_is false a b c d e f g h h1 w
  have q2 := fun w => eq_mat_is true a b c d (-e) (-f) (-g) (-h) h2 w
  clear hm hn h1 h2
  go_enter Try.func10, Try.ntmps10
  go_wp2_with fail
  refine (implIs_is true _ _ _ _ _ H.out).mono ?_
  rintro r w1 ⟨rfl, hb1⟩
  have A1 : Box w1 w.heap.size [.int .i64 a, .int .i64 b, .int .i64 c, .int .i64 d] := Box.below (Box.alloc (Box.new _ _ _) _) hb1
  have B1 : Box w1 (w.heap.size + 1) [.int .i64 e, .int .i64 f, .int .i64 g, .int .i64 h] := Box.below (Box.newAt (by simp) _ _) hb1
  obtain ⟨_, _, _, _, _, _, _, _, _⟩ := B1.four
  go_wp2_with fail
  refine (implIs_is true _ _ _ _ _ HN.out).mono ?_
  rintro r w2 ⟨rfl, hb2⟩
  have A2 := A1.below hb2
  have B2 := B1.below hb2
  obtain ⟨_, _, _, _, _, _, _, _, _⟩ := A2.four
  obtain ⟨_, _, _, _, _, _, _, _, _⟩ := B2.four
  go_wp2_with fail
  refine (implNeg_ent _ _ _ _ ee ef eg eh _).mono ?_
  rintro r w3 ⟨rfl, hb3⟩
  go_wp2
  go_ret2
  exact ⟨rfl, by repeat (first | with_reducible exact own_refl _ | with_reducible assumption | with_reducible apply own_alloc | with_reducible apply own_drewN | with_reducible apply own_drew | ((with_reducible refine own_setCell ?_ ?_ _); rotate_left; focus (first | (simp; done) | (simp; omega))) | (with_reducible (refine own_trans ?_ (by assumption))))⟩
set_option maxHeartbeats 1000000 in
theorem implSign_none (a b c d e f g h : Int) (hm : isM a b c d = true) (hn : isM e f g h = true) (h1 : decide (a = e ∧ b = f ∧ c = g ∧ d = h) = false) (h2 : decide (a = -e ∧ b = -f ∧ c = -g ∧ d = -h) = false) (w : World) :
    Calls Try.prog 10 #[(.agg #[.int .i64 a, .int .i64 b, .int .i64 c, .int .i64 d]), (.agg #[.int .i64 e, .int .i64 f, .int .i64 g, .int .i64 h])] w fun r w' => r = .returned (.tuple #[(.int .i64 0), (.int .i64 0)]) ∧ Below w.heap.size w w' := by
  have H := Lib.hid hm
  have HN := Lib.hid hn
  obtain ⟨ee, ef, eg, eh, _⟩ := isM_ent hn
  have q1 := fun w => eq_mat_is false a b c d e f g h h1 w
  have q2 := fun w => eq_mat_is false a b c d (-e) (-f) (-g) (-h) h2 w
  clear hm hn h1 h2
  go_enter Try.func10, Try.ntmps10
  go_wp2_with fail
  refine (implIs_is true _ _ _ _ _ H.out).mono ?_
  rintro r w1 ⟨rfl, hb1⟩
  have A1 : Box w1 w.heap.size [.int .i64 a, .int .i64 b, .int .i64 c, .int .i64 d] := Box.below (Box.alloc (Box.new _ _ _) _) hb1
  have B1 : Box w1 (w.heap.size + 1) [.int .i64 e, .int .i64 f, .int .i64 g, .int .i64 h] := Box.below (Box.newAt (by simp) _ _) hb1
  obtain ⟨_, _, _, _, _, _, _, _, _⟩ := B1.four
  go_wp2_with fail
  refine (implIs_is true _ _ _ _ _ HN.out).mono ?_
  rintro r w2 ⟨rfl, hb2⟩
  have A2 := A1.below hb2
  have B2 := B1.below hb2
  obtain ⟨_, _, _, _, _, _, _, _, _⟩ := A2.four
  obtain ⟨_, _, _, _, _, _, _, _, _⟩ := B2.four
  go_wp2_with fail
  refine (implNeg_ent _ _ _ _ ee ef eg eh _).mono ?_
  rintro r w3 ⟨rfl, hb3⟩
  go_wp2
  go_ret2
  exact ⟨rfl, by repeat (first | with_reducible exact own_refl _ | with_reducible assumption | with_reducible apply own_alloc | with_reducible apply own_drewN | with_reducible apply own_drew | ((with_reducible refine own_setCell ?_ ?_ _); rotate_left; focus (first | (simp; done) | (simp; omega))) | (with_reducible (refine own_trans ?_ (by assumption))))⟩
set_option maxHeartbeats 1000000 in
theorem specSign_no1 (a b c d e f g h : Int) (hm : isM a b c d = false) (w : World) :
    Calls Try.prog 9 #[(.agg #[.int .i64 a, .int .i64 b, .int .i64 c, .int .i64 d]), (.agg #[.int .i64 e, .int .i64 f, .int .i64 g, .int .i64 h])] w fun r w' => r = .returned (.tuple #[(.int .i64 0), (.int .i64 1)]) ∧ Below w.heap.size w w' := by
  have H := Lib.hid hm
  clear hm
  go_enter Try.func9, Try.ntmps9
  go_wp2_with fail
  refine (l01Is_is false _ _ _ _ _ H.out).mono ?_
  rintro r w1 ⟨rfl, hb1⟩
  go_wp2
  go_ret2
  exact ⟨rfl, by repeat (first | with_reducible exact own_refl _ | with_reducible assumption | with_reducible apply own_alloc | with_reducible apply own_drewN | with_reducible apply own_drew | ((with_reducible refine own_setCell ?_ ?_ _); rotate_left; focus (first | (simp; done) | (simp; omega))) | (with_reducible (refine own_trans ?_ (by assumption))))⟩
set_option maxHeartbeats 1000000 in
theorem specSign_no2 (a b c d e f g h : Int) (hm : isM a b c d = true) (hn : isM e f g h = false) (w : World) :
    Calls Try.prog 9 #[(.agg #[.int .i64 a, .int .i64 b, .int .i64 c, .int .i64 d]), (.agg #[.int .i64 e, .int .i64 f, .int .i64 g, .int .i64 h])] w fun r w' => r = .returned (.tuple #[(.int .i64 0), (.int .i64 1)]) ∧ Below w.heap.size w w' := by
  have H := Lib.hid hm
  have HN := Lib.hid hn
  clear hm hn
  go_enter Try.func9, Try.ntmps9
  go_wp2_with fail
  refine (l01Is_is true _ _ _ _ _ H.out).mono ?_
  rintro r w1 ⟨rfl, hb1⟩
  have A1 : Box w1 w.heap.size [.int .i64 a, .int .i64 b, .int .i64 c, .int .i64 d] := Box.below (Box.alloc (Box.new _ _ _) _) hb1
  have B1 : Box w1 (w.heap.size + 1) [.int .i64 e, .int .i64 f, .int .i64 g, .int .i64 h] := Box.below (Box.newAt (by simp) _ _) hb1
  obtain ⟨_, _, _, _, _, _, _, _, _⟩ := B1.four
  go_wp2_with fail
  refine (l01Is_is false _ _ _ _ _ HN.out).mono ?_
  rintro r w2 ⟨rfl, hb2⟩
  go_wp2
  go_ret2
  exact ⟨rfl, by repeat (first | with_reducible exact own_refl _ | with_reducible assumption | with_reducible apply own_alloc | with_reducible apply own_drewN | with_reducible apply own_drew | ((with_reducible refine own_setCell ?_ ?_ _); rotate_left; focus (first | (simp; done) | (simp; omega))) | (with_reducible (refine own_trans ?_ (by assumption))))⟩
set_option maxHeartbeats 1000000 in
theorem specSign_same (a b c d e f g h : Int) (hm : isM a b c d = true) (hn : isM e f g h = true) (h1 : decide (a = e ∧ b = f ∧ c = g ∧ d = h) = true) (w : World) :
    Calls Try.prog 9 #[(.agg #[.int .i64 a, .int .i64 b, .int .i64 c, .int .i64 d]), (.agg #[.int .i64 e, .int .i64 f, .int .i64 g, .int .i64 h])] w fun r w' => r = .returned (.tuple #[(.int .i64 1), (.int .i64 0)]) ∧ Below w.heap.size w w' := by
  have H := Lib.hid hm
  have HN := Lib.hid hn
  have q1 := fun w => eq_mat_is true a b c d e f g h h1 w
  clear hm hn h1
  go_enter Try.func9, Try.ntmps9
  go_wp2_with fail
  refine (l01Is_is true _ _ _ _ _ H.out).mono ?_
  rintro r w1 ⟨rfl, hb1⟩
  have A1 : Box w1 w.heap.size [.int .i64 a, .int .i64 b, .int .i64 c, .int .i64 d] := Box.below (Box.alloc (Box.new _ _ _) _) hb1
  have B1 : Box w1 (w.heap.size + 1) [.int .i64 e, .int .i64 f, .int .i64 g, .int .i64 h] := Box.below (Box.newAt (by simp) _ _) hb1
  obtain ⟨_, _, _, _, _, _, _, _, _⟩ := B1.four
  go_wp2_with fail
  refine (l01Is_is true _ _ _ _ _ HN.out).mono ?_
  rintro r w2 ⟨rfl, hb2⟩
  have A2 := A1.below hb2
  have B2 := B1.below hb2
  obtain ⟨_, _, _, _, _, _, _, _, _⟩ := A2.four
  obtain ⟨_, _, _, _, _, _, _, _, _⟩ := B2.four
  go_wp2
  go_ret2
  exact ⟨rfl, by repeat (first | with_reducible exact own_refl _ | with_reducible assumption | with_reducible apply own_alloc | with_reducible apply own_drewN | with_reducible apply own_drew | ((with_reducible refine own_setCell ?_ ?_ _); rotate_left; focus (first | (simp; done) | (simp; omega))) | (with_reducible (refine own_trans ?_ (by assumption))))⟩
set_option maxHeartbeats 1000000 in
theorem specSign_neg (a b c d e f g h : Int) (hm : isM a b c d = true) (hn : isM e f g h = true) (h1 : decide (a = e ∧ b = f ∧ c = g ∧ d = h) = false) (h2 : decide (a = -e ∧ b = -f ∧ c = -g ∧ d = -h) = true) (w : World) :
    Calls Try.prog 9 #[(.agg #[.int .i64 a, .int .i64 b, .int .i64 c, .int .i64 d]), (.agg #[.int .i64 e, .int .i64 f, .int .i64 g, .int .i64 h])] w fun r w' => r = .returned (.tuple #[(.int .i64 (-1)), (.int .i64 0)]) ∧ Below w.heap.size w w' := by
  have H := Lib.hid hm
  have HN := Lib.hid hn
  obtain ⟨ee, ef, eg, eh, _⟩ := isM_ent hn
  have q1 := fun w => eq_mat_is false a b c d e f g h h1 w
  have q2 := fun w => eq_mat_is true a b c d (-e) (-f) (-g) (-h) h2 w
  clear hm hn h1 h2
  go_enter Try.func9, Try.ntmps9
  go_wp2_with fail
  refine (l01Is_is true _ _ _ _ _ H.out).mono ?_
  rintro r w1 ⟨rfl, hb1⟩
  have A1 : Box w1 w.heap.size [.int .i64 a, .int .i64 b, .int .i64 c, .int .i64 d] := Box.below (Box.alloc (Box.new _ _ _) _) hb1
  have B1 : Box w1 (w.heap.size + 1) [.int .i64 e, .int .i64 f, .int .i64 g, .int .i64 h] := Box.below (Box.newAt (by simp) _ _) hb1
  obtain ⟨_, _, _, _, _, _, _, _, _⟩ := B1.four
  go_wp2_with fail
  refine (l01Is_is true _ _ _ _ _ HN.out).mono ?_
  rintro r w2 ⟨rfl, hb2⟩
  have A2 := A1.below hb2
  have B2 := B1.below hb2
  obtain ⟨_, _, _, _, _, _, _, _, _⟩ := A2.four
  obtain ⟨_, _, _, _, _, _, _, _, _⟩ := B2.four
  have T : Below w.heap.size w w2 := by repeat (first | with_reducible exact own_refl _ | with_reducible assumption | with_reducible apply own_alloc | with_reducible apply own_drewN | with_reducible apply own_drew | ((with_reducible refine own_setCell ?_ ?_ _); rotate_left; focus (first | (simp; done) | (simp; omega))) | (with_reducible (refine own_trans ?_ (by assumption))))
  go_upto_region 5 with fail
  go_cut [19] (fun s wx => s = .bool true ∧ Below w.heap.size w wx)
  case first =>
    go_region_held3 (fun w' => w'.cell? ⟨w.heap.size, 0, none⟩ = some (.int .i64 a) ∧ w'.cell? ⟨w.heap.size, 1, none⟩ = some (.int .i64 b) ∧ w'.cell? ⟨w.heap.size, 2, none⟩ = some (.int .i64 c) ∧ w'.cell? ⟨w.heap.size, 3, none⟩ = some (.int .i64 d) ∧ w'.cell? ⟨w.heap.size + 1, 0, none⟩ = some (.int .i64 e) ∧ w'.cell? ⟨w.heap.size + 1, 1, none⟩ = some (.int .i64 f) ∧ w'.cell? ⟨w.heap.size + 1, 2, none⟩ = some (.int .i64 g) ∧ w'.cell? ⟨w.heap.size + 1, 3, none⟩ = some (.int .i64 h)) (go_keep)
      (first
        | (go_at_call 20; refine (specNeg_ent _ _ _ _ ee ef eg eh _).mono ?_; rintro r w3 ⟨rfl, hb3⟩; have T := (by first | exact own_trans T hb3 | exact own_trans (own_drew T) hb3 : Below w.heap.size w w3); have A2 := Box.below (by first | exact A2 | exact Box.drew A2) hb3; have B2 := Box.below (by first | exact B2 | exact Box.drew B2) hb3; obtain ⟨_, _, _, _, _, _, _, _, _⟩ := A2.four; obtain ⟨_, _, _, _, _, _, _, _, _⟩ := B2.four))
    all_goals
      go_wp2_with fail
      go_meet
      exact ⟨rfl, T⟩
  case rest =>
    obtain ⟨rfl, T⟩ := hcut
    go_wp2
    go_ret2
    exact ⟨rfl, T⟩
set_option maxHeartbeats 1000000 in
theorem specSign_none (a b c d e f g h : Int) (hm : isM a b c d = true) (hn : isM e f g h = true) (h1 : decide (a = e ∧ b = f ∧ c = g ∧ d = h) = false) (h2 : decide (a = -e ∧ b = -f ∧ c = -g ∧ d = -h) = false) (w : World) :
    Calls Try.prog 9 #[(.agg #[.int .i64 a, .int .i64 b, .int .i64 c, .int .i64 d]), (.agg #[.int .i64 e, .int .i64 f, .int .i64 g, .int .i64 h])] w fun r w' => r = .returned (.tuple #[(.int .i64 0), (.int .i64 0)]) ∧ Below w.heap.size w w' := by
  have H := Lib.hid hm
  have HN := Lib.hid hn
  obtain ⟨ee, ef, eg, eh, _⟩ := isM_ent hn
  have q1 := fun w => eq_mat_is false a b c d e f g h h1 w
  have q2 := fun w => eq_mat_is false a b c d (-e) (-f) (-g) (-h) h2 w
  clear hm hn h1 h2
  go_enter Try.func9, Try.ntmps9
  go_wp2_with fail
  refine (l01Is_is true _ _ _ _ _ H.out).mono ?_
  rintro r w1 ⟨rfl, hb1⟩
  have A1 : Box w1 w.heap.size [.int .i64 a, .int .i64 b, .int .i64 c, .int .i64 d] := Box.below (Box.alloc (Box.new _ _ _) _) hb1
  have B1 : Box w1 (w.heap.size + 1) [.int .i64 e, .int .i64 f, .int .i64 g, .int .i64 h] := Box.below (Box.newAt (by simp) _ _) hb1
  obtain ⟨_, _, _, _, _, _, _, _, _⟩ := B1.four
  go_wp2_with fail
  refine (l01Is_is true _ _ _ _ _ HN.out).mono ?_
  rintro r w2 ⟨rfl, hb2⟩
  have A2 := A1.below hb2
  have B2 := B1.below hb2
  obtain ⟨_, _, _, _, _, _, _, _, _⟩ := A2.four
  obtain ⟨_, _, _, _, _, _, _, _, _⟩ := B2.four
  have T : Below w.heap.size w w2 := by repeat (first | with_reducible exact own_refl _ | with_reducible assumption | with_reducible apply own_alloc | with_reducible apply own_drewN | with_reducible apply own_drew | ((with_reducible refine own_setCell ?_ ?_ _); rotate_left; focus (first | (simp; done) | (simp; omega))) | (with_reducible (refine own_trans ?_ (by assumption))))
  go_upto_region 5 with fail
  go_cut [19] (fun s wx => s = .bool false ∧ Below w.heap.size w wx)
  case first =>
    go_region_held3 (fun w' => w'.cell? ⟨w.heap.size, 0, none⟩ = some (.int .i64 a) ∧ w'.cell? ⟨w.heap.size, 1, none⟩ = some (.int .i64 b) ∧ w'.cell? ⟨w.heap.size, 2, none⟩ = some (.int .i64 c) ∧ w'.cell? ⟨w.heap.size, 3, none⟩ = some (.int .i64 d) ∧ w'.cell? ⟨w.heap.size + 1, 0, none⟩ = some (.int .i64 e) ∧ w'.cell? ⟨w.heap.size + 1, 1, none⟩ = some (.int .i64 f) ∧ w'.cell? ⟨w.heap.size + 1, 2, none⟩ = some (.int .i64 g) ∧ w'.cell? ⟨w.heap.size + 1, 3, none⟩ = some (.int .i64 h)) (go_keep)
      (first
        | (go_at_call 20; refine (specNeg_ent _ _ _ _ ee ef eg eh _).mono ?_; rintro r w3 ⟨rfl, hb3⟩; have T := (by first | exact own_trans T hb3 | exact own_trans (own_drew T) hb3 : Below w.heap.size w w3); have A2 := Box.below (by first | exact A2 | exact Box.drew A2) hb3; have B2 := Box.below (by first | exact B2 | exact Box.drew B2) hb3; obtain ⟨_, _, _, _, _, _, _, _, _⟩ := A2.four; obtain ⟨_, _, _, _, _, _, _, _, _⟩ := B2.four))
    all_goals
      go_wp2_with fail
      go_meet
      exact ⟨rfl, T⟩
  case rest =>
    obtain ⟨rfl, T⟩ := hcut
    go_wp2
    go_ret2
    exact ⟨rfl, T⟩
theorem lawSignBetween_walk (a b c d e f g h : Int) (_ : I64 a) (_ : I64 b) (_ : I64 c) (_ : I64 d) (_ : I64 e) (_ : I64 f) (_ : I64 g) (_ : I64 h) (w : World) :
    Calls Try.prog 4 #[(.agg #[.int .i64 a, .int .i64 b, .int .i64 c, .int .i64 d]), (.agg #[.int .i64 e, .int .i64 f, .int .i64 g, .int .i64 h])] w fun r w' => r = .returned (.bool true) ∧ Below w.heap.size w w' := by
  rcases hm : isM a b c d with _ | _
  · exact lawSignBetween_of a b c d e f g h 0 1 (fun w => specSign_no1 a b c d e f g h hm w) (fun w => implSign_no1 a b c d e f g h hm w) w
  rcases hn : isM e f g h with _ | _
  · exact lawSignBetween_of a b c d e f g h 0 1 (fun w => specSign_no2 a b c d e f g h hm hn w) (fun w => implSign_no2 a b c d e f g h hm hn w) w
  rcases h1 : decide (a = e ∧ b = f ∧ c = g ∧ d = h) with _ | _
  · rcases h2 : decide (a = -e ∧ b = -f ∧ c = -g ∧ d = -h) with _ | _
    · exact lawSignBetween_of a b c d e f g h 0 0 (fun w => specSign_none a b c d e f g h hm hn h1 h2 w) (fun w => implSign_none a b c d e f g h hm hn h1 h2 w) w
    · exact lawSignBetween_of a b c d e f g h (-1) 0 (fun w => specSign_neg a b c d e f g h hm hn h1 h2 w) (fun w => implSign_neg a b c d e f g h hm hn h1 h2 w) w
  · exact lawSignBetween_of a b c d e f g h 1 0 (fun w => specSign_same a b c d e f g h hm hn h1 w) (fun w => implSign_same a b c d e f g h hm hn h1 w) w
end Go.Proofs.Ytempjimoiipkmaa
