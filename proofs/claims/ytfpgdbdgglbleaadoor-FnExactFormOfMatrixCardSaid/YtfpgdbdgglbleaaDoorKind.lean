/- Contracts of KindOf. -/
import Derived.Test.YtfpgdbdgglbleaaDoorPA
import Derived.Test.YtfpgdbdgglbleaaDoorTr
import Derived.Test.YtfpgdbdgglbleaaDoorAbs
import Derived.Test.YtfpgdbdgglbleaaDoorEqM
namespace Go.Proofs.YtfpgdbdgglbleaaDoor
open Go.ChangeShapes Go.WideShapes Go.ChangeAt Go.RowKit

/-- the kind of a matrix -/
def kind (a b c d : Int) : Int := if b = 0 ∧ c = 0 then 0 else if (a + d).natAbs < 2 then 1 else if (a + d).natAbs = 2 then 2 else 3

set_option maxHeartbeats 400000 in
theorem negative_id (w : World) :
    Calls Tryd.prog 29 #[(.agg #[.int .i64 1, .int .i64 0, .int .i64 0, .int .i64 1])] w fun e w' => e = .returned (.agg #[.int .i64 (-1), .int .i64 0, .int .i64 0, .int .i64 (-1)]) ∧ Below w.heap.size w w' := by
  go_enter Tryd.func29, Tryd.ntmps29
  go_wp2
  exact bodyPost_ret (v := (.agg #[.int .i64 (-1), .int .i64 0, .int .i64 0, .int .i64 (-1)])) (by simp [results, Tryd.results29, go_sem]) rfl ⟨rfl, by repeat (first | with_reducible exact own_refl _ | with_reducible assumption | with_reducible apply own_alloc | with_reducible apply own_drewN | with_reducible apply own_drew | ((with_reducible refine own_setCell ?_ ?_ _); rotate_left; focus (first | (simp; done) | (simp; omega))) | (with_reducible (refine own_trans ?_ (by assumption))))⟩


set_option maxHeartbeats 1000000 in
theorem implKind_true_false (a b c d : Int) (h : isM a b c d = true) (e1 : decide (a = 1 ∧ b = 0 ∧ c = 0 ∧ d = 1) = true) (e2 : decide (a = -1 ∧ b = 0 ∧ c = 0 ∧ d = -1) = false) (k : Int)
    (hk : k = 0) (w : World) (hid : Idn w) :
    Calls Tryd.prog 17 #[(.agg #[.int .i64 a, .int .i64 b, .int .i64 c, .int .i64 d])] w fun e w' => e = .returned (.tuple #[(.int .i64 k), (.int .i64 0)]) ∧ Below w.heap.size w w' := by
  obtain ⟨⟨_, _⟩, eb, ec, ⟨_, _⟩, hd⟩ := isM_ent h
  have H := Lib.hid h
  have HK := Lib.hid hk
  have q1 := fun w => eq_mat_is true a b c d 1 0 0 1 e1 w
  have q2 := fun w => eq_mat_is false a b c d (-1) 0 0 (-1) e2 w
  clear h hd e1 e2 hk
  go_enter Tryd.func17, Tryd.ntmps17
  go_wp2_with fail
  refine (implIs_is true _ _ _ _ _ H.out).mono ?_
  rintro e w1 ⟨rfl, hb1⟩
  have BA : Box w1 w.heap.size [.int .i64 a, .int .i64 b, .int .i64 c, .int .i64 d] := Box.below (Box.new _ _ _) hb1
  have T : Below w.heap.size w w1 := own_trans (own_alloc (own_refl _) _) hb1
  have IX : Idn w1 := Rd.below (Rd.alloc hid _) hb1
  obtain ⟨_, _, _, _, _, _, _, _, _⟩ := BA.four
  obtain ⟨_, _, _, _, _⟩ := IX.four
  go_upto_region 3 with fail
  go_cut [16] (fun s wx => s = .bool true ∧ Below w.heap.size w wx ∧ Box wx w.heap.size [.int .i64 a, .int .i64 b, .int .i64 c, .int .i64 d])
  case first =>
    go_quiet (fail)
    all_goals
      go_wp2_with fail
      go_meet
      exact ⟨rfl, below_drewN' T _, BA⟩
  case rest =>
    obtain ⟨rfl, T, BA⟩ := hcut
    obtain ⟨_, _, _, _, _, _, _, _, _⟩ := BA.four
    go_wp2
    go_ret2
    exact ⟨ret_int2 HK.out.symm, T⟩

set_option maxHeartbeats 1000000 in
theorem implKind_false_true (a b c d : Int) (h : isM a b c d = true) (e1 : decide (a = 1 ∧ b = 0 ∧ c = 0 ∧ d = 1) = false) (e2 : decide (a = -1 ∧ b = 0 ∧ c = 0 ∧ d = -1) = true) (k : Int)
    (hk : k = 0) (w : World) (hid : Idn w) :
    Calls Tryd.prog 17 #[(.agg #[.int .i64 a, .int .i64 b, .int .i64 c, .int .i64 d])] w fun e w' => e = .returned (.tuple #[(.int .i64 k), (.int .i64 0)]) ∧ Below w.heap.size w w' := by
  obtain ⟨⟨_, _⟩, eb, ec, ⟨_, _⟩, hd⟩ := isM_ent h
  have H := Lib.hid h
  have HK := Lib.hid hk
  have q1 := fun w => eq_mat_is false a b c d 1 0 0 1 e1 w
  have q2 := fun w => eq_mat_is true a b c d (-1) 0 0 (-1) e2 w
  clear h hd e1 e2 hk
  go_enter Tryd.func17, Tryd.ntmps17
  go_wp2_with fail
  refine (implIs_is true _ _ _ _ _ H.out).mono ?_
  rintro e w1 ⟨rfl, hb1⟩
  have BA : Box w1 w.heap.size [.int .i64 a, .int .i64 b, .int .i64 c, .int .i64 d] := Box.below (Box.new _ _ _) hb1
  have T : Below w.heap.size w w1 := own_trans (own_alloc (own_refl _) _) hb1
  have IX : Idn w1 := Rd.below (Rd.alloc hid _) hb1
  obtain ⟨_, _, _, _, _, _, _, _, _⟩ := BA.four
  obtain ⟨_, _, _, _, _⟩ := IX.four
  go_upto_region 3 with fail
  go_cut [16] (fun s wx => s = .bool true ∧ Below w.heap.size w wx ∧ Box wx w.heap.size [.int .i64 a, .int .i64 b, .int .i64 c, .int .i64 d])
  case first =>
    go_region_held3 (fun w' => w'.cell? ⟨w.heap.size, 0, none⟩ = some (.int .i64 a) ∧ w'.cell? ⟨w.heap.size, 1, none⟩ = some (.int .i64 b) ∧ w'.cell? ⟨w.heap.size, 2, none⟩ = some (.int .i64 c) ∧ w'.cell? ⟨w.heap.size, 3, none⟩ = some (.int .i64 d) ∧ w'.cell? ⟨0, 0, none⟩ = some (.int .i64 1) ∧ w'.cell? ⟨0, 1, none⟩ = some (.int .i64 0) ∧ w'.cell? ⟨0, 2, none⟩ = some (.int .i64 0) ∧ w'.cell? ⟨0, 3, none⟩ = some (.int .i64 1)) (go_keep)
      (first
        | (go_at_call 29; refine (negative_id _).mono ?_; rintro e w2 ⟨rfl, hb2⟩; have T := (by first | exact own_trans T hb2 | exact own_trans (own_drew T) hb2 : Below w.heap.size w w2); have BA := Box.below (by first | exact BA | exact Box.drew BA) hb2; have IX : Idn w2 := Rd.below (by first | exact IX | exact Rd.drew IX) hb2; obtain ⟨_, _, _, _, _, _, _, _, _⟩ := BA.four; obtain ⟨_, _, _, _, _⟩ := IX.four))
    all_goals
      go_wp2_with fail
      go_meet
      exact ⟨rfl, T, BA⟩
  case rest =>
    obtain ⟨rfl, T, BA⟩ := hcut
    obtain ⟨_, _, _, _, _, _, _, _, _⟩ := BA.four
    go_wp2
    go_ret2
    exact ⟨ret_int2 HK.out.symm, T⟩

set_option maxHeartbeats 1000000 in
theorem implKind_false_false (a b c d : Int) (h : isM a b c d = true) (e1 : decide (a = 1 ∧ b = 0 ∧ c = 0 ∧ d = 1) = false) (e2 : decide (a = -1 ∧ b = 0 ∧ c = 0 ∧ d = -1) = false) (k : Int)
    (hk : (0 : Int) = 0 ∧ k = if (a + d).natAbs < 2 then 1 else if (a + d).natAbs = 2 then 2 else 3) (w : World) (hid : Idn w) :
    Calls Tryd.prog 17 #[(.agg #[.int .i64 a, .int .i64 b, .int .i64 c, .int .i64 d])] w fun e w' => e = .returned (.tuple #[(.int .i64 k), (.int .i64 0)]) ∧ Below w.heap.size w w' := by
  obtain ⟨⟨_, _⟩, eb, ec, ⟨_, _⟩, hd⟩ := isM_ent h
  have H := Lib.hid h
  have HK := Lib.hid hk
  have q1 := fun w => eq_mat_is false a b c d 1 0 0 1 e1 w
  have q2 := fun w => eq_mat_is false a b c d (-1) 0 0 (-1) e2 w
  clear h hd e1 e2 hk
  go_enter Tryd.func17, Tryd.ntmps17
  go_wp2_with fail
  refine (implIs_is true _ _ _ _ _ H.out).mono ?_
  rintro e w1 ⟨rfl, hb1⟩
  have BA : Box w1 w.heap.size [.int .i64 a, .int .i64 b, .int .i64 c, .int .i64 d] := Box.below (Box.new _ _ _) hb1
  have T : Below w.heap.size w w1 := own_trans (own_alloc (own_refl _) _) hb1
  have IX : Idn w1 := Rd.below (Rd.alloc hid _) hb1
  obtain ⟨_, _, _, _, _, _, _, _, _⟩ := BA.four
  obtain ⟨_, _, _, _, _⟩ := IX.four
  go_upto_region 3 with fail
  go_cut [16] (fun s wx => s = .bool false ∧ Below w.heap.size w wx ∧ Box wx w.heap.size [.int .i64 a, .int .i64 b, .int .i64 c, .int .i64 d])
  case first =>
    go_region_held3 (fun w' => w'.cell? ⟨w.heap.size, 0, none⟩ = some (.int .i64 a) ∧ w'.cell? ⟨w.heap.size, 1, none⟩ = some (.int .i64 b) ∧ w'.cell? ⟨w.heap.size, 2, none⟩ = some (.int .i64 c) ∧ w'.cell? ⟨w.heap.size, 3, none⟩ = some (.int .i64 d) ∧ w'.cell? ⟨0, 0, none⟩ = some (.int .i64 1) ∧ w'.cell? ⟨0, 1, none⟩ = some (.int .i64 0) ∧ w'.cell? ⟨0, 2, none⟩ = some (.int .i64 0) ∧ w'.cell? ⟨0, 3, none⟩ = some (.int .i64 1)) (go_keep)
      (first
        | (go_at_call 29; refine (negative_id _).mono ?_; rintro e w2 ⟨rfl, hb2⟩; have T := (by first | exact own_trans T hb2 | exact own_trans (own_drew T) hb2 : Below w.heap.size w w2); have BA := Box.below (by first | exact BA | exact Box.drew BA) hb2; have IX : Idn w2 := Rd.below (by first | exact IX | exact Rd.drew IX) hb2; obtain ⟨_, _, _, _, _, _, _, _, _⟩ := BA.four; obtain ⟨_, _, _, _, _⟩ := IX.four))
    all_goals
      go_wp2_with fail
      go_meet
      exact ⟨rfl, T, BA⟩
  case rest =>
    obtain ⟨rfl, T, BA⟩ := hcut
    obtain ⟨_, _, _, _, _, _, _, _, _⟩ := BA.four
    rcases (show (a + d).natAbs < 2 ∨ (a + d).natAbs = 2 ∨ 2 < (a + d).natAbs by omega) with ht | ht | ht
    · have HT := Lib.hid (show k = 1 by have := HK.out.2; rw [if_pos ht] at this; exact this)
      have ht' : ((a + d).natAbs : Int) < 2 := by omega
      clear HK ht
      go_wp2_with (go_at_call 30; refine (absolute_any _ (by omega) (by omega) _).mono ?_; rintro e w3 ⟨rfl, rfl⟩)
      go_ret2
      exact ⟨ret_int2 HT.out.symm, T⟩
    · have HT := Lib.hid (show k = 2 by have := HK.out.2; rw [if_neg (by omega), if_pos ht] at this; exact this)
      have ht1 : ¬ ((a + d).natAbs : Int) < 2 := by omega
      have ht2 : (((a + d).natAbs : Int) == 2) = true := by rw [beq_iff_eq]; omega
      clear HK ht
      go_wp2_with (go_at_call 30; refine (absolute_any _ (by omega) (by omega) _).mono ?_; rintro e w3 ⟨rfl, rfl⟩)
      go_ret2
      exact ⟨ret_int2 HT.out.symm, T⟩
    · have HT := Lib.hid (show k = 3 by have := HK.out.2; rw [if_neg (by omega), if_neg (by omega)] at this; exact this)
      have ht1 : ¬ ((a + d).natAbs : Int) < 2 := by omega
      have ht2 : (((a + d).natAbs : Int) == 2) = false := by rw [beq_eq_false_iff_ne]; omega
      clear HK ht
      go_wp2_with (go_at_call 30; refine (absolute_any _ (by omega) (by omega) _).mono ?_; rintro e w3 ⟨rfl, rfl⟩)
      go_ret2
      exact ⟨ret_int2 HT.out.symm, T⟩

theorem unit_mul {a d : Int} (h : a * d = 1) : (a = 1 ∧ d = 1) ∨ (a = -1 ∧ d = -1) := by
  have h1 : a.natAbs * d.natAbs = 1 := by rw [← Int.natAbs_mul, h]; rfl
  have h2 : a.natAbs = 1 := Nat.eq_one_of_mul_eq_one_right h1
  have h3 : d.natAbs = 1 := Nat.eq_one_of_mul_eq_one_left h1
  rcases (show a = 1 ∨ a = -1 by omega) with rfl | rfl
  · left; omega
  · right; omega
set_option maxHeartbeats 1000000 in
theorem implKind_yes (a b c d : Int) (h : isM a b c d = true) (w : World) (hid : Idn w) :
    Calls Tryd.prog 17 #[(.agg #[.int .i64 a, .int .i64 b, .int .i64 c, .int .i64 d])] w fun e w' => e = .returned (.tuple #[(.int .i64 (kind a b c d)), (.int .i64 0)]) ∧ Below w.heap.size w w' := by
  obtain ⟨_, _, _, _, hd⟩ := isM_ent h
  by_cases e1 : a = 1 ∧ b = 0 ∧ c = 0 ∧ d = 1
  · refine implKind_true_false a b c d h (decide_eq_true e1) (decide_eq_false (by omega)) _ ?_ w hid
    unfold kind
    rw [if_pos ⟨e1.2.1, e1.2.2.1⟩]
  · by_cases e2 : a = -1 ∧ b = 0 ∧ c = 0 ∧ d = -1
    · refine implKind_false_true a b c d h (decide_eq_false e1) (decide_eq_true e2) _ ?_ w hid
      unfold kind
      rw [if_pos ⟨e2.2.1, e2.2.2.1⟩]
    · refine implKind_false_false a b c d h (decide_eq_false e1) (decide_eq_false e2) _ ⟨rfl, ?_⟩ w hid
      have hn : ¬ (b = 0 ∧ c = 0) := by
        rintro ⟨rfl, rfl⟩
        rcases unit_mul (a := a) (d := d) (by simpa using hd) with ⟨rfl, rfl⟩ | ⟨rfl, rfl⟩
        · exact e1 ⟨rfl, rfl, rfl, rfl⟩
        · exact e2 ⟨rfl, rfl, rfl, rfl⟩
      unfold kind
      rw [if_neg hn]
theorem implKind_no (a b c d : Int) (h : isM a b c d = false) (w : World) :
    Calls Tryd.prog 17 #[(.agg #[.int .i64 a, .int .i64 b, .int .i64 c, .int .i64 d])] w fun e w' => e = .returned (.tuple #[(.int .i64 0), (.int .i64 1)]) ∧ Below w.heap.size w w' := by
  have H := Lib.hid h
  clear h
  go_enter Tryd.func17, Tryd.ntmps17
  go_wp2_with fail
  refine (implIs_is false _ _ _ _ _ H.out).mono ?_
  rintro e w1 ⟨rfl, hb1⟩
  go_wp2
  go_ret2
  exact ⟨rfl, by repeat (first | with_reducible exact own_refl _ | with_reducible assumption | with_reducible apply own_alloc | with_reducible apply own_drewN | with_reducible apply own_drew | ((with_reducible refine own_setCell ?_ ?_ _); rotate_left; focus (first | (simp; done) | (simp; omega))) | (with_reducible (refine own_trans ?_ (by assumption))))⟩
end Go.Proofs.YtfpgdbdgglbleaaDoor
