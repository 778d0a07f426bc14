/- IsMember: contracts of both sides. -/
import Derived.Test.YtmijmlngbahaaaaRest
namespace Go.Proofs.Ytmijmlngbahaaaa
open Go.ChangeShapes Go.WideShapes Go.ChangeAt Go.RowKit

theorem isFamily_is (r : Bool) (f : Int) (hr : inR f 0 2 = r) (w : World) : Calls Try.prog 37 #[(.int .i64 f)] w fun e w' => e = .returned (.bool r) ∧ w = w' := by
  subst hr
  by_cases a : 0 ≤ f
  · by_cases b : f ≤ 2
    · go_enter Try.func37, Try.ntmps37
      go_wp2
      go_ret
      exact ⟨by simp [inR, a, b], rfl⟩
    · go_enter Try.func37, Try.ntmps37
      go_wp2
      go_ret
      exact ⟨by simp [inR, a, b], rfl⟩
  · go_enter Try.func37, Try.ntmps37
    go_wp2
    go_ret
    exact ⟨by simp [inR]; omega, rfl⟩

set_option maxHeartbeats 1000000 in
theorem implMem_0 (n a b c d : Int) (h : isM a b c d = true) (h1 : 1 ≤ n) (h2 : n ≤ 1000000) (e0 : (c.tmod n == 0) = false) (w : World) :
    Calls Try.prog 13 #[(.int .i64 0), (.int .i64 n), (.agg #[.int .i64 a, .int .i64 b, .int .i64 c, .int .i64 d])] w fun e w' => e = .returned (.tuple #[.bool false, (.int .i64 0)]) ∧ Below w.heap.size w w' := by
  obtain ⟨⟨_, _⟩, ⟨_, _⟩, ⟨_, _⟩, ⟨_, _⟩, _⟩ := isM_ent h
  obtain ⟨_, _⟩ := rem_bd (x := a - 1) h1
  obtain ⟨_, _⟩ := rem_bd (x := b) h1
  obtain ⟨_, _⟩ := rem_bd (x := c) h1
  obtain ⟨_, _⟩ := rem_bd (x := d - 1) h1
  have g0 : (c.tmod n != 0) = true := by simp at e0; simp [e0]
  have H := Lib.hid h
  clear h
  go_enter Try.func13, Try.ntmps13
  go_wp2_with fail
  refine (implIs_is true _ _ _ _ _ H.out).mono ?_
  rintro e w1 ⟨rfl, hb1⟩
  have Bw1_0 : Box w1 (w.heap.size) [.int .i64 a, .int .i64 b, .int .i64 c, .int .i64 d] := by refine Box.below ?_ hb1; repeat (first | with_reducible assumption | with_reducible exact Box.new _ _ _ | (with_reducible refine Box.newAt ?_ _ _; (simp; done)) | with_reducible apply Box.alloc | with_reducible apply Box.drewN | with_reducible apply Box.drew)
  obtain ⟨_, _, _, _, _, _, _, _, _⟩ := Bw1_0.four
  go_wp2_with fail
  refine (isFamily_is true _ rfl _).mono ?_
  rintro e w2 ⟨rfl, rfl⟩
  go_wp2
  go_ret2
  exact ⟨rfl, by repeat (first | with_reducible exact own_refl _ | with_reducible assumption | with_reducible apply own_alloc | with_reducible apply own_drewN | with_reducible apply own_drew | ((with_reducible refine own_setCell ?_ ?_ _); rotate_left; focus (first | (simp; done) | (simp; omega))) | (with_reducible (refine own_trans ?_ (by assumption))))⟩
set_option maxHeartbeats 1000000 in
theorem implMem_1 (n a b c d : Int) (h : isM a b c d = true) (h1 : 1 ≤ n) (h2 : n ≤ 1000000) (e0 : (c.tmod n == 0) = true) (w : World) :
    Calls Try.prog 13 #[(.int .i64 0), (.int .i64 n), (.agg #[.int .i64 a, .int .i64 b, .int .i64 c, .int .i64 d])] w fun e w' => e = .returned (.tuple #[.bool true, (.int .i64 0)]) ∧ Below w.heap.size w w' := by
  obtain ⟨⟨_, _⟩, ⟨_, _⟩, ⟨_, _⟩, ⟨_, _⟩, _⟩ := isM_ent h
  obtain ⟨_, _⟩ := rem_bd (x := a - 1) h1
  obtain ⟨_, _⟩ := rem_bd (x := b) h1
  obtain ⟨_, _⟩ := rem_bd (x := c) h1
  obtain ⟨_, _⟩ := rem_bd (x := d - 1) h1
  have g0 : (c.tmod n != 0) = false := by simp at e0; simp [e0]
  have H := Lib.hid h
  clear h
  go_enter Try.func13, Try.ntmps13
  go_wp2_with fail
  refine (implIs_is true _ _ _ _ _ H.out).mono ?_
  rintro e w1 ⟨rfl, hb1⟩
  have Bw1_0 : Box w1 (w.heap.size) [.int .i64 a, .int .i64 b, .int .i64 c, .int .i64 d] := by refine Box.below ?_ hb1; repeat (first | with_reducible assumption | with_reducible exact Box.new _ _ _ | (with_reducible refine Box.newAt ?_ _ _; (simp; done)) | with_reducible apply Box.alloc | with_reducible apply Box.drewN | with_reducible apply Box.drew)
  obtain ⟨_, _, _, _, _, _, _, _, _⟩ := Bw1_0.four
  go_wp2_with fail
  refine (isFamily_is true _ rfl _).mono ?_
  rintro e w2 ⟨rfl, rfl⟩
  go_wp2
  go_ret2
  exact ⟨rfl, by repeat (first | with_reducible exact own_refl _ | with_reducible assumption | with_reducible apply own_alloc | with_reducible apply own_drewN | with_reducible apply own_drew | ((with_reducible refine own_setCell ?_ ?_ _); rotate_left; focus (first | (simp; done) | (simp; omega))) | (with_reducible (refine own_trans ?_ (by assumption))))⟩
set_option maxHeartbeats 1000000 in
theorem implMem_2 (n a b c d : Int) (h : isM a b c d = true) (h1 : 1 ≤ n) (h2 : n ≤ 1000000) (e0 : (c.tmod n == 0) = false) (w : World) :
    Calls Try.prog 13 #[(.int .i64 1), (.int .i64 n), (.agg #[.int .i64 a, .int .i64 b, .int .i64 c, .int .i64 d])] w fun e w' => e = .returned (.tuple #[.bool false, (.int .i64 0)]) ∧ Below w.heap.size w w' := by
  obtain ⟨⟨_, _⟩, ⟨_, _⟩, ⟨_, _⟩, ⟨_, _⟩, _⟩ := isM_ent h
  obtain ⟨_, _⟩ := rem_bd (x := a - 1) h1
  obtain ⟨_, _⟩ := rem_bd (x := b) h1
  obtain ⟨_, _⟩ := rem_bd (x := c) h1
  obtain ⟨_, _⟩ := rem_bd (x := d - 1) h1
  have g0 : (c.tmod n != 0) = true := by simp at e0; simp [e0]
  have H := Lib.hid h
  clear h
  go_enter Try.func13, Try.ntmps13
  go_wp2_with fail
  refine (implIs_is true _ _ _ _ _ H.out).mono ?_
  rintro e w1 ⟨rfl, hb1⟩
  have Bw1_0 : Box w1 (w.heap.size) [.int .i64 a, .int .i64 b, .int .i64 c, .int .i64 d] := by refine Box.below ?_ hb1; repeat (first | with_reducible assumption | with_reducible exact Box.new _ _ _ | (with_reducible refine Box.newAt ?_ _ _; (simp; done)) | with_reducible apply Box.alloc | with_reducible apply Box.drewN | with_reducible apply Box.drew)
  obtain ⟨_, _, _, _, _, _, _, _, _⟩ := Bw1_0.four
  go_wp2_with fail
  refine (isFamily_is true _ rfl _).mono ?_
  rintro e w2 ⟨rfl, rfl⟩
  go_wp2
  go_ret2
  exact ⟨rfl, by repeat (first | with_reducible exact own_refl _ | with_reducible assumption | with_reducible apply own_alloc | with_reducible apply own_drewN | with_reducible apply own_drew | ((with_reducible refine own_setCell ?_ ?_ _); rotate_left; focus (first | (simp; done) | (simp; omega))) | (with_reducible (refine own_trans ?_ (by assumption))))⟩
set_option maxHeartbeats 1000000 in
theorem implMem_3 (n a b c d : Int) (h : isM a b c d = true) (h1 : 1 ≤ n) (h2 : n ≤ 1000000) (e0 : (c.tmod n == 0) = true) (e1 : ((a - 1).tmod n == 0) = false) (w : World) :
    Calls Try.prog 13 #[(.int .i64 1), (.int .i64 n), (.agg #[.int .i64 a, .int .i64 b, .int .i64 c, .int .i64 d])] w fun e w' => e = .returned (.tuple #[.bool false, (.int .i64 0)]) ∧ Below w.heap.size w w' := by
  obtain ⟨⟨_, _⟩, ⟨_, _⟩, ⟨_, _⟩, ⟨_, _⟩, _⟩ := isM_ent h
  obtain ⟨_, _⟩ := rem_bd (x := a - 1) h1
  obtain ⟨_, _⟩ := rem_bd (x := b) h1
  obtain ⟨_, _⟩ := rem_bd (x := c) h1
  obtain ⟨_, _⟩ := rem_bd (x := d - 1) h1
  have g0 : (c.tmod n != 0) = false := by simp at e0; simp [e0]
  have g1 : ((a - 1).tmod n != 0) = true := by simp at e1; simp [e1]
  have H := Lib.hid h
  clear h
  go_enter Try.func13, Try.ntmps13
  go_wp2_with fail
  refine (implIs_is true _ _ _ _ _ H.out).mono ?_
  rintro e w1 ⟨rfl, hb1⟩
  have Bw1_0 : Box w1 (w.heap.size) [.int .i64 a, .int .i64 b, .int .i64 c, .int .i64 d] := by refine Box.below ?_ hb1; repeat (first | with_reducible assumption | with_reducible exact Box.new _ _ _ | (with_reducible refine Box.newAt ?_ _ _; (simp; done)) | with_reducible apply Box.alloc | with_reducible apply Box.drewN | with_reducible apply Box.drew)
  obtain ⟨_, _, _, _, _, _, _, _, _⟩ := Bw1_0.four
  go_wp2_with fail
  refine (isFamily_is true _ rfl _).mono ?_
  rintro e w2 ⟨rfl, rfl⟩
  go_wp2
  go_ret2
  exact ⟨rfl, by repeat (first | with_reducible exact own_refl _ | with_reducible assumption | with_reducible apply own_alloc | with_reducible apply own_drewN | with_reducible apply own_drew | ((with_reducible refine own_setCell ?_ ?_ _); rotate_left; focus (first | (simp; done) | (simp; omega))) | (with_reducible (refine own_trans ?_ (by assumption))))⟩
set_option maxHeartbeats 1000000 in
theorem implMem_4 (n a b c d : Int) (h : isM a b c d = true) (h1 : 1 ≤ n) (h2 : n ≤ 1000000) (e0 : (c.tmod n == 0) = true) (e1 : ((a - 1).tmod n == 0) = true) (e2 : ((d - 1).tmod n == 0) = false) (w : World) :
    Calls Try.prog 13 #[(.int .i64 1), (.int .i64 n), (.agg #[.int .i64 a, .int .i64 b, .int .i64 c, .int .i64 d])] w fun e w' => e = .returned (.tuple #[.bool false, (.int .i64 0)]) ∧ Below w.heap.size w w' := by
  obtain ⟨⟨_, _⟩, ⟨_, _⟩, ⟨_, _⟩, ⟨_, _⟩, _⟩ := isM_ent h
  obtain ⟨_, _⟩ := rem_bd (x := a - 1) h1
  obtain ⟨_, _⟩ := rem_bd (x := b) h1
  obtain ⟨_, _⟩ := rem_bd (x := c) h1
  obtain ⟨_, _⟩ := rem_bd (x := d - 1) h1
  have g0 : (c.tmod n != 0) = false := by simp at e0; simp [e0]
  have g1 : ((a - 1).tmod n != 0) = false := by simp at e1; simp [e1]
  have g2 : ((d - 1).tmod n != 0) = true := by simp at e2; simp [e2]
  have H := Lib.hid h
  clear h
  go_enter Try.func13, Try.ntmps13
  go_wp2_with fail
  refine (implIs_is true _ _ _ _ _ H.out).mono ?_
  rintro e w1 ⟨rfl, hb1⟩
  have Bw1_0 : Box w1 (w.heap.size) [.int .i64 a, .int .i64 b, .int .i64 c, .int .i64 d] := by refine Box.below ?_ hb1; repeat (first | with_reducible assumption | with_reducible exact Box.new _ _ _ | (with_reducible refine Box.newAt ?_ _ _; (simp; done)) | with_reducible apply Box.alloc | with_reducible apply Box.drewN | with_reducible apply Box.drew)
  obtain ⟨_, _, _, _, _, _, _, _, _⟩ := Bw1_0.four
  go_wp2_with fail
  refine (isFamily_is true _ rfl _).mono ?_
  rintro e w2 ⟨rfl, rfl⟩
  go_wp2
  go_ret2
  exact ⟨rfl, by repeat (first | with_reducible exact own_refl _ | with_reducible assumption | with_reducible apply own_alloc | with_reducible apply own_drewN | with_reducible apply own_drew | ((with_reducible refine own_setCell ?_ ?_ _); rotate_left; focus (first | (simp; done) | (simp; omega))) | (with_reducible (refine own_trans ?_ (by assumption))))⟩
set_option maxHeartbeats 1000000 in
theorem implMem_5 (n a b c d : Int) (h : isM a b c d = true) (h1 : 1 ≤ n) (h2 : n ≤ 1000000) (e0 : (c.tmod n == 0) = false) (w : World) :
    Calls Try.prog 13 #[(.int .i64 2), (.int .i64 n), (.agg #[.int .i64 a, .int .i64 b, .int .i64 c, .int .i64 d])] w fun e w' => e = .returned (.tuple #[.bool false, (.int .i64 0)]) ∧ Below w.heap.size w w' := by
  obtain ⟨⟨_, _⟩, ⟨_, _⟩, ⟨_, _⟩, ⟨_, _⟩, _⟩ := isM_ent h
  obtain ⟨_, _⟩ := rem_bd (x := a - 1) h1
  obtain ⟨_, _⟩ := rem_bd (x := b) h1
  obtain ⟨_, _⟩ := rem_bd (x := c) h1
  obtain ⟨_, _⟩ := rem_bd (x := d - 1) h1
  have g0 : (c.tmod n != 0) = true := by simp at e0; simp [e0]
  have H := Lib.hid h
  clear h
  go_enter Try.func13, Try.ntmps13
  go_wp2_with fail
  refine (implIs_is true _ _ _ _ _ H.out).mono ?_
  rintro e w1 ⟨rfl, hb1⟩
  have Bw1_0 : Box w1 (w.heap.size) [.int .i64 a, .int .i64 b, .int .i64 c, .int .i64 d] := by refine Box.below ?_ hb1; repeat (first | with_reducible assumption | with_reducible exact Box.new _ _ _ | (with_reducible refine Box.newAt ?_ _ _; (simp; done)) | with_reducible apply Box.alloc | with_reducible apply Box.drewN | with_reducible apply Box.drew)
  obtain ⟨_, _, _, _, _, _, _, _, _⟩ := Bw1_0.four
  go_wp2_with fail
  refine (isFamily_is true _ rfl _).mono ?_
  rintro e w2 ⟨rfl, rfl⟩
  go_wp2
  go_ret2
  exact ⟨rfl, by repeat (first | with_reducible exact own_refl _ | with_reducible assumption | with_reducible apply own_alloc | with_reducible apply own_drewN | with_reducible apply own_drew | ((with_reducible refine own_setCell ?_ ?_ _); rotate_left; focus (first | (simp; done) | (simp; omega))) | (with_reducible (refine own_trans ?_ (by assumption))))⟩
set_option maxHeartbeats 1000000 in
theorem implMem_6 (n a b c d : Int) (h : isM a b c d = true) (h1 : 1 ≤ n) (h2 : n ≤ 1000000) (e0 : (c.tmod n == 0) = true) (e1 : ((a - 1).tmod n == 0) = false) (w : World) :
    Calls Try.prog 13 #[(.int .i64 2), (.int .i64 n), (.agg #[.int .i64 a, .int .i64 b, .int .i64 c, .int .i64 d])] w fun e w' => e = .returned (.tuple #[.bool false, (.int .i64 0)]) ∧ Below w.heap.size w w' := by
  obtain ⟨⟨_, _⟩, ⟨_, _⟩, ⟨_, _⟩, ⟨_, _⟩, _⟩ := isM_ent h
  obtain ⟨_, _⟩ := rem_bd (x := a - 1) h1
  obtain ⟨_, _⟩ := rem_bd (x := b) h1
  obtain ⟨_, _⟩ := rem_bd (x := c) h1
  obtain ⟨_, _⟩ := rem_bd (x := d - 1) h1
  have g0 : (c.tmod n != 0) = false := by simp at e0; simp [e0]
  have g1 : ((a - 1).tmod n != 0) = true := by simp at e1; simp [e1]
  have H := Lib.hid h
  clear h
  go_enter Try.func13, Try.ntmps13
  go_wp2_with fail
  refine (implIs_is true _ _ _ _ _ H.out).mono ?_
  rintro e w1 ⟨rfl, hb1⟩
  have Bw1_0 : Box w1 (w.heap.size) [.int .i64 a, .int .i64 b, .int .i64 c, .int .i64 d] := by refine Box.below ?_ hb1; repeat (first | with_reducible assumption | with_reducible exact Box.new _ _ _ | (with_reducible refine Box.newAt ?_ _ _; (simp; done)) | with_reducible apply Box.alloc | with_reducible apply Box.drewN | with_reducible apply Box.drew)
  obtain ⟨_, _, _, _, _, _, _, _, _⟩ := Bw1_0.four
  go_wp2_with fail
  refine (isFamily_is true _ rfl _).mono ?_
  rintro e w2 ⟨rfl, rfl⟩
  go_wp2
  go_ret2
  exact ⟨rfl, by repeat (first | with_reducible exact own_refl _ | with_reducible assumption | with_reducible apply own_alloc | with_reducible apply own_drewN | with_reducible apply own_drew | ((with_reducible refine own_setCell ?_ ?_ _); rotate_left; focus (first | (simp; done) | (simp; omega))) | (with_reducible (refine own_trans ?_ (by assumption))))⟩
set_option maxHeartbeats 1000000 in
theorem implMem_7 (n a b c d : Int) (h : isM a b c d = true) (h1 : 1 ≤ n) (h2 : n ≤ 1000000) (e0 : (c.tmod n == 0) = true) (e1 : ((a - 1).tmod n == 0) = true) (e2 : ((d - 1).tmod n == 0) = false) (w : World) :
    Calls Try.prog 13 #[(.int .i64 2), (.int .i64 n), (.agg #[.int .i64 a, .int .i64 b, .int .i64 c, .int .i64 d])] w fun e w' => e = .returned (.tuple #[.bool false, (.int .i64 0)]) ∧ Below w.heap.size w w' := by
  obtain ⟨⟨_, _⟩, ⟨_, _⟩, ⟨_, _⟩, ⟨_, _⟩, _⟩ := isM_ent h
  obtain ⟨_, _⟩ := rem_bd (x := a - 1) h1
  obtain ⟨_, _⟩ := rem_bd (x := b) h1
  obtain ⟨_, _⟩ := rem_bd (x := c) h1
  obtain ⟨_, _⟩ := rem_bd (x := d - 1) h1
  have g0 : (c.tmod n != 0) = false := by simp at e0; simp [e0]
  have g1 : ((a - 1).tmod n != 0) = false := by simp at e1; simp [e1]
  have g2 : ((d - 1).tmod n != 0) = true := by simp at e2; simp [e2]
  have H := Lib.hid h
  clear h
  go_enter Try.func13, Try.ntmps13
  go_wp2_with fail
  refine (implIs_is true _ _ _ _ _ H.out).mono ?_
  rintro e w1 ⟨rfl, hb1⟩
  have Bw1_0 : Box w1 (w.heap.size) [.int .i64 a, .int .i64 b, .int .i64 c, .int .i64 d] := by refine Box.below ?_ hb1; repeat (first | with_reducible assumption | with_reducible exact Box.new _ _ _ | (with_reducible refine Box.newAt ?_ _ _; (simp; done)) | with_reducible apply Box.alloc | with_reducible apply Box.drewN | with_reducible apply Box.drew)
  obtain ⟨_, _, _, _, _, _, _, _, _⟩ := Bw1_0.four
  go_wp2_with fail
  refine (isFamily_is true _ rfl _).mono ?_
  rintro e w2 ⟨rfl, rfl⟩
  go_wp2
  go_ret2
  exact ⟨rfl, by repeat (first | with_reducible exact own_refl _ | with_reducible assumption | with_reducible apply own_alloc | with_reducible apply own_drewN | with_reducible apply own_drew | ((with_reducible refine own_setCell ?_ ?_ _); rotate_left; focus (first | (simp; done) | (simp; omega))) | (with_reducible (refine own_trans ?_ (by assumption))))⟩
set_option maxHeartbeats 1000000 in
theorem implMem_8 (n a b c d : Int) (h : isM a b c d = true) (h1 : 1 ≤ n) (h2 : n ≤ 1000000) (e0 : (c.tmod n == 0) = true) (e1 : ((a - 1).tmod n == 0) = true) (e2 : ((d - 1).tmod n == 0) = true) (w : World) :
    Calls Try.prog 13 #[(.int .i64 1), (.int .i64 n), (.agg #[.int .i64 a, .int .i64 b, .int .i64 c, .int .i64 d])] w fun e w' => e = .returned (.tuple #[.bool true, (.int .i64 0)]) ∧ Below w.heap.size w w' := by
  obtain ⟨⟨_, _⟩, ⟨_, _⟩, ⟨_, _⟩, ⟨_, _⟩, _⟩ := isM_ent h
  obtain ⟨_, _⟩ := rem_bd (x := a - 1) h1
  obtain ⟨_, _⟩ := rem_bd (x := b) h1
  obtain ⟨_, _⟩ := rem_bd (x := c) h1
  obtain ⟨_, _⟩ := rem_bd (x := d - 1) h1
  have g0 : (c.tmod n != 0) = false := by simp at e0; simp [e0]
  have g1 : ((a - 1).tmod n != 0) = false := by simp at e1; simp [e1]
  have g2 : ((d - 1).tmod n != 0) = false := by simp at e2; simp [e2]
  have H := Lib.hid h
  clear h
  go_enter Try.func13, Try.ntmps13
  go_wp2_with fail
  refine (implIs_is true _ _ _ _ _ H.out).mono ?_
  rintro e w1 ⟨rfl, hb1⟩
  have Bw1_0 : Box w1 (w.heap.size) [.int .i64 a, .int .i64 b, .int .i64 c, .int .i64 d] := by refine Box.below ?_ hb1; repeat (first | with_reducible assumption | with_reducible exact Box.new _ _ _ | (with_reducible refine Box.newAt ?_ _ _; (simp; done)) | with_reducible apply Box.alloc | with_reducible apply Box.drewN | with_reducible apply Box.drew)
  obtain ⟨_, _, _, _, _, _, _, _, _⟩ := Bw1_0.four
  go_wp2_with fail
  refine (isFamily_is true _ rfl _).mono ?_
  rintro e w2 ⟨rfl, rfl⟩
  go_wp2
  go_ret2
  exact ⟨rfl, by repeat (first | with_reducible exact own_refl _ | with_reducible assumption | with_reducible apply own_alloc | with_reducible apply own_drewN | with_reducible apply own_drew | ((with_reducible refine own_setCell ?_ ?_ _); rotate_left; focus (first | (simp; done) | (simp; omega))) | (with_reducible (refine own_trans ?_ (by assumption))))⟩
set_option maxHeartbeats 1000000 in
theorem implMem_9 (n a b c d : Int) (h : isM a b c d = true) (h1 : 1 ≤ n) (h2 : n ≤ 1000000) (e0 : (c.tmod n == 0) = true) (e1 : ((a - 1).tmod n == 0) = true) (e2 : ((d - 1).tmod n == 0) = true) (e3 : (b.tmod n == 0) = false) (w : World) :
    Calls Try.prog 13 #[(.int .i64 2), (.int .i64 n), (.agg #[.int .i64 a, .int .i64 b, .int .i64 c, .int .i64 d])] w fun e w' => e = .returned (.tuple #[.bool false, (.int .i64 0)]) ∧ Below w.heap.size w w' := by
  obtain ⟨⟨_, _⟩, ⟨_, _⟩, ⟨_, _⟩, ⟨_, _⟩, _⟩ := isM_ent h
  obtain ⟨_, _⟩ := rem_bd (x := a - 1) h1
  obtain ⟨_, _⟩ := rem_bd (x := b) h1
  obtain ⟨_, _⟩ := rem_bd (x := c) h1
  obtain ⟨_, _⟩ := rem_bd (x := d - 1) h1
  have g0 : (c.tmod n != 0) = false := by simp at e0; simp [e0]
  have g1 : ((a - 1).tmod n != 0) = false := by simp at e1; simp [e1]
  have g2 : ((d - 1).tmod n != 0) = false := by simp at e2; simp [e2]
  have g3 : (b.tmod n != 0) = true := by simp at e3; simp [e3]
  have H := Lib.hid h
  clear h
  go_enter Try.func13, Try.ntmps13
  go_wp2_with fail
  refine (implIs_is true _ _ _ _ _ H.out).mono ?_
  rintro e w1 ⟨rfl, hb1⟩
  have Bw1_0 : Box w1 (w.heap.size) [.int .i64 a, .int .i64 b, .int .i64 c, .int .i64 d] := by refine Box.below ?_ hb1; repeat (first | with_reducible assumption | with_reducible exact Box.new _ _ _ | (with_reducible refine Box.newAt ?_ _ _; (simp; done)) | with_reducible apply Box.alloc | with_reducible apply Box.drewN | with_reducible apply Box.drew)
  obtain ⟨_, _, _, _, _, _, _, _, _⟩ := Bw1_0.four
  go_wp2_with fail
  refine (isFamily_is true _ rfl _).mono ?_
  rintro e w2 ⟨rfl, rfl⟩
  go_wp2
  go_ret2
  exact ⟨rfl, by repeat (first | with_reducible exact own_refl _ | with_reducible assumption | with_reducible apply own_alloc | with_reducible apply own_drewN | with_reducible apply own_drew | ((with_reducible refine own_setCell ?_ ?_ _); rotate_left; focus (first | (simp; done) | (simp; omega))) | (with_reducible (refine own_trans ?_ (by assumption))))⟩
set_option maxHeartbeats 1000000 in
theorem implMem_10 (n a b c d : Int) (h : isM a b c d = true) (h1 : 1 ≤ n) (h2 : n ≤ 1000000) (e0 : (c.tmod n == 0) = true) (e1 : ((a - 1).tmod n == 0) = true) (e2 : ((d - 1).tmod n == 0) = true) (e3 : (b.tmod n == 0) = true) (w : World) :
    Calls Try.prog 13 #[(.int .i64 2), (.int .i64 n), (.agg #[.int .i64 a, .int .i64 b, .int .i64 c, .int .i64 d])] w fun e w' => e = .returned (.tuple #[.bool true, (.int .i64 0)]) ∧ Below w.heap.size w w' := by
  obtain ⟨⟨_, _⟩, ⟨_, _⟩, ⟨_, _⟩, ⟨_, _⟩, _⟩ := isM_ent h
  obtain ⟨_, _⟩ := rem_bd (x := a - 1) h1
  obtain ⟨_, _⟩ := rem_bd (x := b) h1
  obtain ⟨_, _⟩ := rem_bd (x := c) h1
  obtain ⟨_, _⟩ := rem_bd (x := d - 1) h1
  have g0 : (c.tmod n != 0) = false := by simp at e0; simp [e0]
  have g1 : ((a - 1).tmod n != 0) = false := by simp at e1; simp [e1]
  have g2 : ((d - 1).tmod n != 0) = false := by simp at e2; simp [e2]
  have g3 : (b.tmod n != 0) = false := by simp at e3; simp [e3]
  have H := Lib.hid h
  clear h
  go_enter Try.func13, Try.ntmps13
  go_wp2_with fail
  refine (implIs_is true _ _ _ _ _ H.out).mono ?_
  rintro e w1 ⟨rfl, hb1⟩
  have Bw1_0 : Box w1 (w.heap.size) [.int .i64 a, .int .i64 b, .int .i64 c, .int .i64 d] := by refine Box.below ?_ hb1; repeat (first | with_reducible assumption | with_reducible exact Box.new _ _ _ | (with_reducible refine Box.newAt ?_ _ _; (simp; done)) | with_reducible apply Box.alloc | with_reducible apply Box.drewN | with_reducible apply Box.drew)
  obtain ⟨_, _, _, _, _, _, _, _, _⟩ := Bw1_0.four
  go_wp2_with fail
  refine (isFamily_is true _ rfl _).mono ?_
  rintro e w2 ⟨rfl, rfl⟩
  go_wp2
  go_ret2
  exact ⟨rfl, by repeat (first | with_reducible exact own_refl _ | with_reducible assumption | with_reducible apply own_alloc | with_reducible apply own_drewN | with_reducible apply own_drew | ((with_reducible refine own_setCell ?_ ?_ _); rotate_left; focus (first | (simp; done) | (simp; omega))) | (with_reducible (refine own_trans ?_ (by assumption))))⟩
set_option maxHeartbeats 1000000 in
theorem specMem_0 (n a b c d : Int) (h : isM a b c d = true) (h1 : 1 ≤ n) (h2 : n ≤ 1000000) (e0 : (c.tmod n == 0) = false) (w : World) :
    Calls Try.prog 11 #[(.int .i64 0), (.int .i64 n), (.agg #[.int .i64 a, .int .i64 b, .int .i64 c, .int .i64 d])] w fun e w' => e = .returned (.tuple #[.bool false, (.int .i64 0)]) ∧ Below w.heap.size w w' := by
  obtain ⟨⟨_, _⟩, ⟨_, _⟩, ⟨_, _⟩, ⟨_, _⟩, _⟩ := isM_ent h
  obtain ⟨_, _⟩ := rem_bd (x := a - 1) h1
  obtain ⟨_, _⟩ := rem_bd (x := b) h1
  obtain ⟨_, _⟩ := rem_bd (x := c) h1
  obtain ⟨_, _⟩ := rem_bd (x := d - 1) h1
  have g0 : (c.tmod n != 0) = true := by simp at e0; simp [e0]
  have hR := Lib.hid (show inR n 1 1000000 = true from decide_eq_true ⟨h1, h2⟩)
  have H := Lib.hid h
  clear h
  go_enter Try.func11, Try.ntmps11
  go_wp2_with fail
  refine (l01Is_is true _ _ _ _ _ H.out).mono ?_
  rintro e w1 ⟨rfl, hb1⟩
  have Bw1_0 : Box w1 (w.heap.size) [.int .i64 a, .int .i64 b, .int .i64 c, .int .i64 d] := by refine Box.below ?_ hb1; repeat (first | with_reducible assumption | with_reducible exact Box.new _ _ _ | (with_reducible refine Box.newAt ?_ _ _; (simp; done)) | with_reducible apply Box.alloc | with_reducible apply Box.drewN | with_reducible apply Box.drew)
  obtain ⟨_, _, _, _, _, _, _, _, _⟩ := Bw1_0.four
  go_wp2_with fail
  refine (l01In_is true _ _ _ rfl _).mono ?_
  rintro e w2 ⟨rfl, rfl⟩
  go_wp2_with fail
  refine (l01In_is true _ _ _ hR.out _).mono ?_
  rintro e w2 ⟨rfl, rfl⟩
  go_wp2
  go_ret2
  exact ⟨rfl, by repeat (first | with_reducible exact own_refl _ | with_reducible assumption | with_reducible apply own_alloc | with_reducible apply own_drewN | with_reducible apply own_drew | ((with_reducible refine own_setCell ?_ ?_ _); rotate_left; focus (first | (simp; done) | (simp; omega))) | (with_reducible (refine own_trans ?_ (by assumption))))⟩
set_option maxHeartbeats 1000000 in
theorem specMem_1 (n a b c d : Int) (h : isM a b c d = true) (h1 : 1 ≤ n) (h2 : n ≤ 1000000) (e0 : (c.tmod n == 0) = true) (w : World) :
    Calls Try.prog 11 #[(.int .i64 0), (.int .i64 n), (.agg #[.int .i64 a, .int .i64 b, .int .i64 c, .int .i64 d])] w fun e w' => e = .returned (.tuple #[.bool true, (.int .i64 0)]) ∧ Below w.heap.size w w' := by
  obtain ⟨⟨_, _⟩, ⟨_, _⟩, ⟨_, _⟩, ⟨_, _⟩, _⟩ := isM_ent h
  obtain ⟨_, _⟩ := rem_bd (x := a - 1) h1
  obtain ⟨_, _⟩ := rem_bd (x := b) h1
  obtain ⟨_, _⟩ := rem_bd (x := c) h1
  obtain ⟨_, _⟩ := rem_bd (x := d - 1) h1
  have g0 : (c.tmod n != 0) = false := by simp at e0; simp [e0]
  have hR := Lib.hid (show inR n 1 1000000 = true from decide_eq_true ⟨h1, h2⟩)
  have H := Lib.hid h
  clear h
  go_enter Try.func11, Try.ntmps11
  go_wp2_with fail
  refine (l01Is_is true _ _ _ _ _ H.out).mono ?_
  rintro e w1 ⟨rfl, hb1⟩
  have Bw1_0 : Box w1 (w.heap.size) [.int .i64 a, .int .i64 b, .int .i64 c, .int .i64 d] := by refine Box.below ?_ hb1; repeat (first | with_reducible assumption | with_reducible exact Box.new _ _ _ | (with_reducible refine Box.newAt ?_ _ _; (simp; done)) | with_reducible apply Box.alloc | with_reducible apply Box.drewN | with_reducible apply Box.drew)
  obtain ⟨_, _, _, _, _, _, _, _, _⟩ := Bw1_0.four
  go_wp2_with fail
  refine (l01In_is true _ _ _ rfl _).mono ?_
  rintro e w2 ⟨rfl, rfl⟩
  go_wp2_with fail
  refine (l01In_is true _ _ _ hR.out _).mono ?_
  rintro e w2 ⟨rfl, rfl⟩
  go_wp2
  go_ret2
  exact ⟨rfl, by repeat (first | with_reducible exact own_refl _ | with_reducible assumption | with_reducible apply own_alloc | with_reducible apply own_drewN | with_reducible apply own_drew | ((with_reducible refine own_setCell ?_ ?_ _); rotate_left; focus (first | (simp; done) | (simp; omega))) | (with_reducible (refine own_trans ?_ (by assumption))))⟩
set_option maxHeartbeats 1000000 in
theorem specMem_2 (n a b c d : Int) (h : isM a b c d = true) (h1 : 1 ≤ n) (h2 : n ≤ 1000000) (e0 : (c.tmod n == 0) = false) (w : World) :
    Calls Try.prog 11 #[(.int .i64 1), (.int .i64 n), (.agg #[.int .i64 a, .int .i64 b, .int .i64 c, .int .i64 d])] w fun e w' => e = .returned (.tuple #[.bool false, (.int .i64 0)]) ∧ Below w.heap.size w w' := by
  obtain ⟨⟨_, _⟩, ⟨_, _⟩, ⟨_, _⟩, ⟨_, _⟩, _⟩ := isM_ent h
  obtain ⟨_, _⟩ := rem_bd (x := a - 1) h1
  obtain ⟨_, _⟩ := rem_bd (x := b) h1
  obtain ⟨_, _⟩ := rem_bd (x := c) h1
  obtain ⟨_, _⟩ := rem_bd (x := d - 1) h1
  have g0 : (c.tmod n != 0) = true := by simp at e0; simp [e0]
  have hR := Lib.hid (show inR n 1 1000000 = true from decide_eq_true ⟨h1, h2⟩)
  have H := Lib.hid h
  clear h
  go_enter Try.func11, Try.ntmps11
  go_wp2_with fail
  refine (l01Is_is true _ _ _ _ _ H.out).mono ?_
  rintro e w1 ⟨rfl, hb1⟩
  have Bw1_0 : Box w1 (w.heap.size) [.int .i64 a, .int .i64 b, .int .i64 c, .int .i64 d] := by refine Box.below ?_ hb1; repeat (first | with_reducible assumption | with_reducible exact Box.new _ _ _ | (with_reducible refine Box.newAt ?_ _ _; (simp; done)) | with_reducible apply Box.alloc | with_reducible apply Box.drewN | with_reducible apply Box.drew)
  obtain ⟨_, _, _, _, _, _, _, _, _⟩ := Bw1_0.four
  go_wp2_with fail
  refine (l01In_is true _ _ _ rfl _).mono ?_
  rintro e w2 ⟨rfl, rfl⟩
  go_wp2_with fail
  refine (l01In_is true _ _ _ hR.out _).mono ?_
  rintro e w2 ⟨rfl, rfl⟩
  go_wp2
  go_ret2
  exact ⟨rfl, by repeat (first | with_reducible exact own_refl _ | with_reducible assumption | with_reducible apply own_alloc | with_reducible apply own_drewN | with_reducible apply own_drew | ((with_reducible refine own_setCell ?_ ?_ _); rotate_left; focus (first | (simp; done) | (simp; omega))) | (with_reducible (refine own_trans ?_ (by assumption))))⟩
set_option maxHeartbeats 1000000 in
theorem specMem_3 (n a b c d : Int) (h : isM a b c d = true) (h1 : 1 ≤ n) (h2 : n ≤ 1000000) (e0 : (c.tmod n == 0) = true) (e1 : ((a - 1).tmod n == 0) = false) (w : World) :
    Calls Try.prog 11 #[(.int .i64 1), (.int .i64 n), (.agg #[.int .i64 a, .int .i64 b, .int .i64 c, .int .i64 d])] w fun e w' => e = .returned (.tuple #[.bool false, (.int .i64 0)]) ∧ Below w.heap.size w w' := by
  obtain ⟨⟨_, _⟩, ⟨_, _⟩, ⟨_, _⟩, ⟨_, _⟩, _⟩ := isM_ent h
  obtain ⟨_, _⟩ := rem_bd (x := a - 1) h1
  obtain ⟨_, _⟩ := rem_bd (x := b) h1
  obtain ⟨_, _⟩ := rem_bd (x := c) h1
  obtain ⟨_, _⟩ := rem_bd (x := d - 1) h1
  have g0 : (c.tmod n != 0) = false := by simp at e0; simp [e0]
  have g1 : ((a - 1).tmod n != 0) = true := by simp at e1; simp [e1]
  have hR := Lib.hid (show inR n 1 1000000 = true from decide_eq_true ⟨h1, h2⟩)
  have H := Lib.hid h
  clear h
  go_enter Try.func11, Try.ntmps11
  go_wp2_with fail
  refine (l01Is_is true _ _ _ _ _ H.out).mono ?_
  rintro e w1 ⟨rfl, hb1⟩
  have Bw1_0 : Box w1 (w.heap.size) [.int .i64 a, .int .i64 b, .int .i64 c, .int .i64 d] := by refine Box.below ?_ hb1; repeat (first | with_reducible assumption | with_reducible exact Box.new _ _ _ | (with_reducible refine Box.newAt ?_ _ _; (simp; done)) | with_reducible apply Box.alloc | with_reducible apply Box.drewN | with_reducible apply Box.drew)
  obtain ⟨_, _, _, _, _, _, _, _, _⟩ := Bw1_0.four
  go_wp2_with fail
  refine (l01In_is true _ _ _ rfl _).mono ?_
  rintro e w2 ⟨rfl, rfl⟩
  go_wp2_with fail
  refine (l01In_is true _ _ _ hR.out _).mono ?_
  rintro e w2 ⟨rfl, rfl⟩
  go_wp2
  go_ret2
  exact ⟨rfl, by repeat (first | with_reducible exact own_refl _ | with_reducible assumption | with_reducible apply own_alloc | with_reducible apply own_drewN | with_reducible apply own_drew | ((with_reducible refine own_setCell ?_ ?_ _); rotate_left; focus (first | (simp; done) | (simp; omega))) | (with_reducible (refine own_trans ?_ (by assumption))))⟩
set_option maxHeartbeats 1000000 in
theorem specMem_4 (n a b c d : Int) (h : isM a b c d = true) (h1 : 1 ≤ n) (h2 : n ≤ 1000000) (e0 : (c.tmod n == 0) = true) (e1 : ((a - 1).tmod n == 0) = true) (e2 : ((d - 1).tmod n == 0) = false) (w : World) :
    Calls Try.prog 11 #[(.int .i64 1), (.int .i64 n), (.agg #[.int .i64 a, .int .i64 b, .int .i64 c, .int .i64 d])] w fun e w' => e = .returned (.tuple #[.bool false, (.int .i64 0)]) ∧ Below w.heap.size w w' := by
  obtain ⟨⟨_, _⟩, ⟨_, _⟩, ⟨_, _⟩, ⟨_, _⟩, _⟩ := isM_ent h
  obtain ⟨_, _⟩ := rem_bd (x := a - 1) h1
  obtain ⟨_, _⟩ := rem_bd (x := b) h1
  obtain ⟨_, _⟩ := rem_bd (x := c) h1
  obtain ⟨_, _⟩ := rem_bd (x := d - 1) h1
  have g0 : (c.tmod n != 0) = false := by simp at e0; simp [e0]
  have g1 : ((a - 1).tmod n != 0) = false := by simp at e1; simp [e1]
  have g2 : ((d - 1).tmod n != 0) = true := by simp at e2; simp [e2]
  have hR := Lib.hid (show inR n 1 1000000 = true from decide_eq_true ⟨h1, h2⟩)
  have H := Lib.hid h
  clear h
  go_enter Try.func11, Try.ntmps11
  go_wp2_with fail
  refine (l01Is_is true _ _ _ _ _ H.out).mono ?_
  rintro e w1 ⟨rfl, hb1⟩
  have Bw1_0 : Box w1 (w.heap.size) [.int .i64 a, .int .i64 b, .int .i64 c, .int .i64 d] := by refine Box.below ?_ hb1; repeat (first | with_reducible assumption | with_reducible exact Box.new _ _ _ | (with_reducible refine Box.newAt ?_ _ _; (simp; done)) | with_reducible apply Box.alloc | with_reducible apply Box.drewN | with_reducible apply Box.drew)
  obtain ⟨_, _, _, _, _, _, _, _, _⟩ := Bw1_0.four
  go_wp2_with fail
  refine (l01In_is true _ _ _ rfl _).mono ?_
  rintro e w2 ⟨rfl, rfl⟩
  go_wp2_with fail
  refine (l01In_is true _ _ _ hR.out _).mono ?_
  rintro e w2 ⟨rfl, rfl⟩
  go_wp2
  go_ret2
  exact ⟨rfl, by repeat (first | with_reducible exact own_refl _ | with_reducible assumption | with_reducible apply own_alloc | with_reducible apply own_drewN | with_reducible apply own_drew | ((with_reducible refine own_setCell ?_ ?_ _); rotate_left; focus (first | (simp; done) | (simp; omega))) | (with_reducible (refine own_trans ?_ (by assumption))))⟩
set_option maxHeartbeats 1000000 in
theorem specMem_5 (n a b c d : Int) (h : isM a b c d = true) (h1 : 1 ≤ n) (h2 : n ≤ 1000000) (e0 : (c.tmod n == 0) = false) (w : World) :
    Calls Try.prog 11 #[(.int .i64 2), (.int .i64 n), (.agg #[.int .i64 a, .int .i64 b, .int .i64 c, .int .i64 d])] w fun e w' => e = .returned (.tuple #[.bool false, (.int .i64 0)]) ∧ Below w.heap.size w w' := by
  obtain ⟨⟨_, _⟩, ⟨_, _⟩, ⟨_, _⟩, ⟨_, _⟩, _⟩ := isM_ent h
  obtain ⟨_, _⟩ := rem_bd (x := a - 1) h1
  obtain ⟨_, _⟩ := rem_bd (x := b) h1
  obtain ⟨_, _⟩ := rem_bd (x := c) h1
  obtain ⟨_, _⟩ := rem_bd (x := d - 1) h1
  have g0 : (c.tmod n != 0) = true := by simp at e0; simp [e0]
  have hR := Lib.hid (show inR n 1 1000000 = true from decide_eq_true ⟨h1, h2⟩)
  have H := Lib.hid h
  clear h
  go_enter Try.func11, Try.ntmps11
  go_wp2_with fail
  refine (l01Is_is true _ _ _ _ _ H.out).mono ?_
  rintro e w1 ⟨rfl, hb1⟩
  have Bw1_0 : Box w1 (w.heap.size) [.int .i64 a, .int .i64 b, .int .i64 c, .int .i64 d] := by refine Box.below ?_ hb1; repeat (first | with_reducible assumption | with_reducible exact Box.new _ _ _ | (with_reducible refine Box.newAt ?_ _ _; (simp; done)) | with_reducible apply Box.alloc | with_reducible apply Box.drewN | with_reducible apply Box.drew)
  obtain ⟨_, _, _, _, _, _, _, _, _⟩ := Bw1_0.four
  go_wp2_with fail
  refine (l01In_is true _ _ _ rfl _).mono ?_
  rintro e w2 ⟨rfl, rfl⟩
  go_wp2_with fail
  refine (l01In_is true _ _ _ hR.out _).mono ?_
  rintro e w2 ⟨rfl, rfl⟩
  go_wp2
  go_ret2
  exact ⟨rfl, by repeat (first | with_reducible exact own_refl _ | with_reducible assumption | with_reducible apply own_alloc | with_reducible apply own_drewN | with_reducible apply own_drew | ((with_reducible refine own_setCell ?_ ?_ _); rotate_left; focus (first | (simp; done) | (simp; omega))) | (with_reducible (refine own_trans ?_ (by assumption))))⟩
set_option maxHeartbeats 1000000 in
theorem specMem_6 (n a b c d : Int) (h : isM a b c d = true) (h1 : 1 ≤ n) (h2 : n ≤ 1000000) (e0 : (c.tmod n == 0) = true) (e1 : ((a - 1).tmod n == 0) = false) (w : World) :
    Calls Try.prog 11 #[(.int .i64 2), (.int .i64 n), (.agg #[.int .i64 a, .int .i64 b, .int .i64 c, .int .i64 d])] w fun e w' => e = .returned (.tuple #[.bool false, (.int .i64 0)]) ∧ Below w.heap.size w w' := by
  obtain ⟨⟨_, _⟩, ⟨_, _⟩, ⟨_, _⟩, ⟨_, _⟩, _⟩ := isM_ent h
  obtain ⟨_, _⟩ := rem_bd (x := a - 1) h1
  obtain ⟨_, _⟩ := rem_bd (x := b) h1
  obtain ⟨_, _⟩ := rem_bd (x := c) h1
  obtain ⟨_, _⟩ := rem_bd (x := d - 1) h1
  have g0 : (c.tmod n != 0) = false := by simp at e0; simp [e0]
  have g1 : ((a - 1).tmod n != 0) = true := by simp at e1; simp [e1]
  have hR := Lib.hid (show inR n 1 1000000 = true from decide_eq_true ⟨h1, h2⟩)
  have H := Lib.hid h
  clear h
  go_enter Try.func11, Try.ntmps11
  go_wp2_with fail
  refine (l01Is_is true _ _ _ _ _ H.out).mono ?_
  rintro e w1 ⟨rfl, hb1⟩
  have Bw1_0 : Box w1 (w.heap.size) [.int .i64 a, .int .i64 b, .int .i64 c, .int .i64 d] := by refine Box.below ?_ hb1; repeat (first | with_reducible assumption | with_reducible exact Box.new _ _ _ | (with_reducible refine Box.newAt ?_ _ _; (simp; done)) | with_reducible apply Box.alloc | with_reducible apply Box.drewN | with_reducible apply Box.drew)
  obtain ⟨_, _, _, _, _, _, _, _, _⟩ := Bw1_0.four
  go_wp2_with fail
  refine (l01In_is true _ _ _ rfl _).mono ?_
  rintro e w2 ⟨rfl, rfl⟩
  go_wp2_with fail
  refine (l01In_is true _ _ _ hR.out _).mono ?_
  rintro e w2 ⟨rfl, rfl⟩
  go_wp2
  go_ret2
  exact ⟨rfl, by repeat (first | with_reducible exact own_refl _ | with_reducible assumption | with_reducible apply own_alloc | with_reducible apply own_drewN | with_reducible apply own_drew | ((with_reducible refine own_setCell ?_ ?_ _); rotate_left; focus (first | (simp; done) | (simp; omega))) | (with_reducible (refine own_trans ?_ (by assumption))))⟩
set_option maxHeartbeats 1000000 in
theorem specMem_7 (n a b c d : Int) (h : isM a b c d = true) (h1 : 1 ≤ n) (h2 : n ≤ 1000000) (e0 : (c.tmod n == 0) = true) (e1 : ((a - 1).tmod n == 0) = true) (e2 : ((d - 1).tmod n == 0) = false) (w : World) :
    Calls Try.prog 11 #[(.int .i64 2), (.int .i64 n), (.agg #[.int .i64 a, .int .i64 b, .int .i64 c, .int .i64 d])] w fun e w' => e = .returned (.tuple #[.bool false, (.int .i64 0)]) ∧ Below w.heap.size w w' := by
  obtain ⟨⟨_, _⟩, ⟨_, _⟩, ⟨_, _⟩, ⟨_, _⟩, _⟩ := isM_ent h
  obtain ⟨_, _⟩ := rem_bd (x := a - 1) h1
  obtain ⟨_, _⟩ := rem_bd (x := b) h1
  obtain ⟨_, _⟩ := rem_bd (x := c) h1
  obtain ⟨_, _⟩ := rem_bd (x := d - 1) h1
  have g0 : (c.tmod n != 0) = false := by simp at e0; simp [e0]
  have g1 : ((a - 1).tmod n != 0) = false := by simp at e1; simp [e1]
  have g2 : ((d - 1).tmod n != 0) = true := by simp at e2; simp [e2]
  have hR := Lib.hid (show inR n 1 1000000 = true from decide_eq_true ⟨h1, h2⟩)
  have H := Lib.hid h
  clear h
  go_enter Try.func11, Try.ntmps11
  go_wp2_with fail
  refine (l01Is_is true _ _ _ _ _ H.out).mono ?_
  rintro e w1 ⟨rfl, hb1⟩
  have Bw1_0 : Box w1 (w.heap.size) [.int .i64 a, .int .i64 b, .int .i64 c, .int .i64 d] := by refine Box.below ?_ hb1; repeat (first | with_reducible assumption | with_reducible exact Box.new _ _ _ | (with_reducible refine Box.newAt ?_ _ _; (simp; done)) | with_reducible apply Box.alloc | with_reducible apply Box.drewN | with_reducible apply Box.drew)
  obtain ⟨_, _, _, _, _, _, _, _, _⟩ := Bw1_0.four
  go_wp2_with fail
  refine (l01In_is true _ _ _ rfl _).mono ?_
  rintro e w2 ⟨rfl, rfl⟩
  go_wp2_with fail
  refine (l01In_is true _ _ _ hR.out _).mono ?_
  rintro e w2 ⟨rfl, rfl⟩
  go_wp2
  go_ret2
  exact ⟨rfl, by repeat (first | with_reducible exact own_refl _ | with_reducible assumption | with_reducible apply own_alloc | with_reducible apply own_drewN | with_reducible apply own_drew | ((with_reducible refine own_setCell ?_ ?_ _); rotate_left; focus (first | (simp; done) | (simp; omega))) | (with_reducible (refine own_trans ?_ (by assumption))))⟩
set_option maxHeartbeats 1000000 in
theorem specMem_8 (n a b c d : Int) (h : isM a b c d = true) (h1 : 1 ≤ n) (h2 : n ≤ 1000000) (e0 : (c.tmod n == 0) = true) (e1 : ((a - 1).tmod n == 0) = true) (e2 : ((d - 1).tmod n == 0) = true) (w : World) :
    Calls Try.prog 11 #[(.int .i64 1), (.int .i64 n), (.agg #[.int .i64 a, .int .i64 b, .int .i64 c, .int .i64 d])] w fun e w' => e = .returned (.tuple #[.bool true, (.int .i64 0)]) ∧ Below w.heap.size w w' := by
  obtain ⟨⟨_, _⟩, ⟨_, _⟩, ⟨_, _⟩, ⟨_, _⟩, _⟩ := isM_ent h
  obtain ⟨_, _⟩ := rem_bd (x := a - 1) h1
  obtain ⟨_, _⟩ := rem_bd (x := b) h1
  obtain ⟨_, _⟩ := rem_bd (x := c) h1
  obtain ⟨_, _⟩ := rem_bd (x := d - 1) h1
  have g0 : (c.tmod n != 0) = false := by simp at e0; simp [e0]
  have g1 : ((a - 1).tmod n != 0) = false := by simp at e1; simp [e1]
  have g2 : ((d - 1).tmod n != 0) = false := by simp at e2; simp [e2]
  have hR := Lib.hid (show inR n 1 1000000 = true from decide_eq_true ⟨h1, h2⟩)
  have H := Lib.hid h
  clear h
  go_enter Try.func11, Try.ntmps11
  go_wp2_with fail
  refine (l01Is_is true _ _ _ _ _ H.out).mono ?_
  rintro e w1 ⟨rfl, hb1⟩
  have Bw1_0 : Box w1 (w.heap.size) [.int .i64 a, .int .i64 b, .int .i64 c, .int .i64 d] := by refine Box.below ?_ hb1; repeat (first | with_reducible assumption | with_reducible exact Box.new _ _ _ | (with_reducible refine Box.newAt ?_ _ _; (simp; done)) | with_reducible apply Box.alloc | with_reducible apply Box.drewN | with_reducible apply Box.drew)
  obtain ⟨_, _, _, _, _, _, _, _, _⟩ := Bw1_0.four
  go_wp2_with fail
  refine (l01In_is true _ _ _ rfl _).mono ?_
  rintro e w2 ⟨rfl, rfl⟩
  go_wp2_with fail
  refine (l01In_is true _ _ _ hR.out _).mono ?_
  rintro e w2 ⟨rfl, rfl⟩
  go_wp2
  go_ret2
  exact ⟨rfl, by repeat (first | with_reducible exact own_refl _ | with_reducible assumption | with_reducible apply own_alloc | with_reducible apply own_drewN | with_reducible apply own_drew | ((with_reducible refine own_setCell ?_ ?_ _); rotate_left; focus (first | (simp; done) | (simp; omega))) | (with_reducible (refine own_trans ?_ (by assumption))))⟩
set_option maxHeartbeats 1000000 in
theorem specMem_9 (n a b c d : Int) (h : isM a b c d = true) (h1 : 1 ≤ n) (h2 : n ≤ 1000000) (e0 : (c.tmod n == 0) = true) (e1 : ((a - 1).tmod n == 0) = true) (e2 : ((d - 1).tmod n == 0) = true) (e3 : (b.tmod n == 0) = false) (w : World) :
    Calls Try.prog 11 #[(.int .i64 2), (.int .i64 n), (.agg #[.int .i64 a, .int .i64 b, .int .i64 c, .int .i64 d])] w fun e w' => e = .returned (.tuple #[.bool false, (.int .i64 0)]) ∧ Below w.heap.size w w' := by
  obtain ⟨⟨_, _⟩, ⟨_, _⟩, ⟨_, _⟩, ⟨_, _⟩, _⟩ := isM_ent h
  obtain ⟨_, _⟩ := rem_bd (x := a - 1) h1
  obtain ⟨_, _⟩ := rem_bd (x := b) h1
  obtain ⟨_, _⟩ := rem_bd (x := c) h1
  obtain ⟨_, _⟩ := rem_bd (x := d - 1) h1
  have g0 : (c.tmod n != 0) = false := by simp at e0; simp [e0]
  have g1 : ((a - 1).tmod n != 0) = false := by simp at e1; simp [e1]
  have g2 : ((d - 1).tmod n != 0) = false := by simp at e2; simp [e2]
  have g3 : (b.tmod n != 0) = true := by simp at e3; simp [e3]
  have hR := Lib.hid (show inR n 1 1000000 = true from decide_eq_true ⟨h1, h2⟩)
  have H := Lib.hid h
  clear h
  go_enter Try.func11, Try.ntmps11
  go_wp2_with fail
  refine (l01Is_is true _ _ _ _ _ H.out).mono ?_
  rintro e w1 ⟨rfl, hb1⟩
  have Bw1_0 : Box w1 (w.heap.size) [.int .i64 a, .int .i64 b, .int .i64 c, .int .i64 d] := by refine Box.below ?_ hb1; repeat (first | with_reducible assumption | with_reducible exact Box.new _ _ _ | (with_reducible refine Box.newAt ?_ _ _; (simp; done)) | with_reducible apply Box.alloc | with_reducible apply Box.drewN | with_reducible apply Box.drew)
  obtain ⟨_, _, _, _, _, _, _, _, _⟩ := Bw1_0.four
  go_wp2_with fail
  refine (l01In_is true _ _ _ rfl _).mono ?_
  rintro e w2 ⟨rfl, rfl⟩
  go_wp2_with fail
  refine (l01In_is true _ _ _ hR.out _).mono ?_
  rintro e w2 ⟨rfl, rfl⟩
  go_wp2
  go_ret2
  exact ⟨rfl, by repeat (first | with_reducible exact own_refl _ | with_reducible assumption | with_reducible apply own_alloc | with_reducible apply own_drewN | with_reducible apply own_drew | ((with_reducible refine own_setCell ?_ ?_ _); rotate_left; focus (first | (simp; done) | (simp; omega))) | (with_reducible (refine own_trans ?_ (by assumption))))⟩
set_option maxHeartbeats 1000000 in
theorem specMem_10 (n a b c d : Int) (h : isM a b c d = true) (h1 : 1 ≤ n) (h2 : n ≤ 1000000) (e0 : (c.tmod n == 0) = true) (e1 : ((a - 1).tmod n == 0) = true) (e2 : ((d - 1).tmod n == 0) = true) (e3 : (b.tmod n == 0) = true) (w : World) :
    Calls Try.prog 11 #[(.int .i64 2), (.int .i64 n), (.agg #[.int .i64 a, .int .i64 b, .int .i64 c, .int .i64 d])] w fun e w' => e = .returned (.tuple #[.bool true, (.int .i64 0)]) ∧ Below w.heap.size w w' := by
  obtain ⟨⟨_, _⟩, ⟨_, _⟩, ⟨_, _⟩, ⟨_, _⟩, _⟩ := isM_ent h
  obtain ⟨_, _⟩ := rem_bd (x := a - 1) h1
  obtain ⟨_, _⟩ := rem_bd (x := b) h1
  obtain ⟨_, _⟩ := rem_bd (x := c) h1
  obtain ⟨_, _⟩ := rem_bd (x := d - 1) h1
  have g0 : (c.tmod n != 0) = false := by simp at e0; simp [e0]
  have g1 : ((a - 1).tmod n != 0) = false := by simp at e1; simp [e1]
  have g2 : ((d - 1).tmod n != 0) = false := by simp at e2; simp [e2]
  have g3 : (b.tmod n != 0) = false := by simp at e3; simp [e3]
  have hR := Lib.hid (show inR n 1 1000000 = true from decide_eq_true ⟨h1, h2⟩)
  have H := Lib.hid h
  clear h
  go_enter Try.func11, Try.ntmps11
  go_wp2_with fail
  refine (l01Is_is true _ _ _ _ _ H.out).mono ?_
  rintro e w1 ⟨rfl, hb1⟩
  have Bw1_0 : Box w1 (w.heap.size) [.int .i64 a, .int .i64 b, .int .i64 c, .int .i64 d] := by refine Box.below ?_ hb1; repeat (first | with_reducible assumption | with_reducible exact Box.new _ _ _ | (with_reducible refine Box.newAt ?_ _ _; (simp; done)) | with_reducible apply Box.alloc | with_reducible apply Box.drewN | with_reducible apply Box.drew)
  obtain ⟨_, _, _, _, _, _, _, _, _⟩ := Bw1_0.four
  go_wp2_with fail
  refine (l01In_is true _ _ _ rfl _).mono ?_
  rintro e w2 ⟨rfl, rfl⟩
  go_wp2_with fail
  refine (l01In_is true _ _ _ hR.out _).mono ?_
  rintro e w2 ⟨rfl, rfl⟩
  go_wp2
  go_ret2
  exact ⟨rfl, by repeat (first | with_reducible exact own_refl _ | with_reducible assumption | with_reducible apply own_alloc | with_reducible apply own_drewN | with_reducible apply own_drew | ((with_reducible refine own_setCell ?_ ?_ _); rotate_left; focus (first | (simp; done) | (simp; omega))) | (with_reducible (refine own_trans ?_ (by assumption))))⟩

theorem implMem_no (f n a b c d : Int) (h : isM a b c d = false) (w : World) :
    Calls Try.prog 13 #[(.int .i64 f), (.int .i64 n), (.agg #[.int .i64 a, .int .i64 b, .int .i64 c, .int .i64 d])] w fun e w' => e = .returned (.tuple #[.bool false, (.int .i64 1)]) ∧ Below w.heap.size w w' := by
  have H := Lib.hid h
  clear h
  go_enter Try.func13, Try.ntmps13
  go_wp2_with fail
  refine (implIs_is false _ _ _ _ _ H.out).mono ?_
  rintro e w1 ⟨rfl, hb1⟩
  go_wp2
  go_ret2
  exact ⟨rfl, by repeat (first | with_reducible exact own_refl _ | with_reducible assumption | with_reducible apply own_alloc | with_reducible apply own_drewN | with_reducible apply own_drew | ((with_reducible refine own_setCell ?_ ?_ _); rotate_left; focus (first | (simp; done) | (simp; omega))) | (with_reducible (refine own_trans ?_ (by assumption))))⟩
theorem specMem_no (f n a b c d : Int) (h : isM a b c d = false) (w : World) :
    Calls Try.prog 11 #[(.int .i64 f), (.int .i64 n), (.agg #[.int .i64 a, .int .i64 b, .int .i64 c, .int .i64 d])] w fun e w' => e = .returned (.tuple #[.bool false, (.int .i64 1)]) ∧ Below w.heap.size w w' := by
  have H := Lib.hid h
  clear h
  go_enter Try.func11, Try.ntmps11
  go_wp2_with fail
  refine (l01Is_is false _ _ _ _ _ H.out).mono ?_
  rintro e w1 ⟨rfl, hb1⟩
  go_wp2
  go_ret2
  exact ⟨rfl, by repeat (first | with_reducible exact own_refl _ | with_reducible assumption | with_reducible apply own_alloc | with_reducible apply own_drewN | with_reducible apply own_drew | ((with_reducible refine own_setCell ?_ ?_ _); rotate_left; focus (first | (simp; done) | (simp; omega))) | (with_reducible (refine own_trans ?_ (by assumption))))⟩
theorem implMem_range (f n a b c d : Int) (h : isM a b c d = true) (hf : (inR f 0 2 && inR n 1 1000000) = false) (w : World) :
    Calls Try.prog 13 #[(.int .i64 f), (.int .i64 n), (.agg #[.int .i64 a, .int .i64 b, .int .i64 c, .int .i64 d])] w fun e w' => e = .returned (.tuple #[.bool false, (.int .i64 2)]) ∧ Below w.heap.size w w' := by
  have H := Lib.hid h
  rcases hF : inR f 0 2 with _ | _
  · have HF := Lib.hid hF
    clear h hf hF
    go_enter Try.func13, Try.ntmps13
    go_wp2_with fail
    refine (implIs_is true _ _ _ _ _ H.out).mono ?_
    rintro e w1 ⟨rfl, hb1⟩
    go_wp2_with fail
    refine (isFamily_is false _ HF.out _).mono ?_
    rintro e w2 ⟨rfl, rfl⟩
    go_wp2
    go_ret2
    exact ⟨rfl, by repeat (first | with_reducible exact own_refl _ | with_reducible assumption | with_reducible apply own_alloc | with_reducible apply own_drewN | with_reducible apply own_drew | ((with_reducible refine own_setCell ?_ ?_ _); rotate_left; focus (first | (simp; done) | (simp; omega))) | (with_reducible (refine own_trans ?_ (by assumption))))⟩
  · have HF := Lib.hid hF
    have hn : n < 1 ∨ 1000000 < n := by
      rw [hF] at hf
      simp only [Bool.true_and, inR, decide_eq_false_iff_not] at hf
      omega
    clear h hf hF
    rcases hn with hn | hn
    all_goals
      go_enter Try.func13, Try.ntmps13
      go_wp2_with fail
      refine (implIs_is true _ _ _ _ _ H.out).mono ?_
      rintro e w1 ⟨rfl, hb1⟩
      go_wp2_with fail
      refine (isFamily_is true _ HF.out _).mono ?_
      rintro e w2 ⟨rfl, rfl⟩
      go_wp2
      go_ret2
      exact ⟨rfl, by repeat (first | with_reducible exact own_refl _ | with_reducible assumption | with_reducible apply own_alloc | with_reducible apply own_drewN | with_reducible apply own_drew | ((with_reducible refine own_setCell ?_ ?_ _); rotate_left; focus (first | (simp; done) | (simp; omega))) | (with_reducible (refine own_trans ?_ (by assumption))))⟩
theorem specMem_range (f n a b c d : Int) (h : isM a b c d = true) (hf : (inR f 0 2 && inR n 1 1000000) = false) (w : World) :
    Calls Try.prog 11 #[(.int .i64 f), (.int .i64 n), (.agg #[.int .i64 a, .int .i64 b, .int .i64 c, .int .i64 d])] w fun e w' => e = .returned (.tuple #[.bool false, (.int .i64 2)]) ∧ Below w.heap.size w w' := by
  have H := Lib.hid h
  rcases hF : inR f 0 2 with _ | _
  · have HF := Lib.hid hF
    clear h hf hF
    go_enter Try.func11, Try.ntmps11
    go_wp2_with fail
    refine (l01Is_is true _ _ _ _ _ H.out).mono ?_
    rintro e w1 ⟨rfl, hb1⟩
    go_wp2_with fail
    refine (l01In_is false _ _ _ HF.out _).mono ?_
    rintro e w2 ⟨rfl, rfl⟩
    go_wp2
    go_ret2
    exact ⟨rfl, by repeat (first | with_reducible exact own_refl _ | with_reducible assumption | with_reducible apply own_alloc | with_reducible apply own_drewN | with_reducible apply own_drew | ((with_reducible refine own_setCell ?_ ?_ _); rotate_left; focus (first | (simp; done) | (simp; omega))) | (with_reducible (refine own_trans ?_ (by assumption))))⟩
  · have HF := Lib.hid hF
    have HN := Lib.hid (show inR n 1 1000000 = false by rw [hF] at hf; simpa using hf)
    clear h hf hF
    go_enter Try.func11, Try.ntmps11
    go_wp2_with fail
    refine (l01Is_is true _ _ _ _ _ H.out).mono ?_
    rintro e w1 ⟨rfl, hb1⟩
    go_wp2_with fail
    refine (l01In_is true _ _ _ HF.out _).mono ?_
    rintro e w2 ⟨rfl, rfl⟩
    go_wp2_with fail
    refine (l01In_is false _ _ _ HN.out _).mono ?_
    rintro e w2 ⟨rfl, rfl⟩
    go_wp2
    go_ret2
    exact ⟨rfl, by repeat (first | with_reducible exact own_refl _ | with_reducible assumption | with_reducible apply own_alloc | with_reducible apply own_drewN | with_reducible apply own_drew | ((with_reducible refine own_setCell ?_ ?_ _); rotate_left; focus (first | (simp; done) | (simp; omega))) | (with_reducible (refine own_trans ?_ (by assumption))))⟩

theorem Mem_both (f n a b c d : Int) : ∃ (r : Bool) (k : Int),
    (∀ w : World, Calls Try.prog 11 #[(.int .i64 f), (.int .i64 n), (.agg #[.int .i64 a, .int .i64 b, .int .i64 c, .int .i64 d])] w fun e w' => e = .returned (.tuple #[.bool r, (.int .i64 k)]) ∧ Below w.heap.size w w') ∧
    (∀ w : World, Calls Try.prog 13 #[(.int .i64 f), (.int .i64 n), (.agg #[.int .i64 a, .int .i64 b, .int .i64 c, .int .i64 d])] w fun e w' => e = .returned (.tuple #[.bool r, (.int .i64 k)]) ∧ Below w.heap.size w w') := by
  rcases h : isM a b c d with _ | _
  · exact ⟨_, _, specMem_no f n a b c d h, implMem_no f n a b c d h⟩
  rcases hf : (inR f 0 2 && inR n 1 1000000) with _ | _
  · exact ⟨_, _, specMem_range f n a b c d h hf, implMem_range f n a b c d h hf⟩
  have hf' : (0 ≤ f ∧ f ≤ 2) ∧ (1 ≤ n ∧ n ≤ 1000000) := by simpa [inR] using hf
  obtain ⟨⟨f0, f2⟩, n1, n2⟩ := hf'
  rcases (show f = 0 ∨ f = 1 ∨ f = 2 by omega) with rfl | rfl | rfl
  · rcases e0 : (c.tmod n == 0) with _ | _
    · exact ⟨_, _, specMem_0 n a b c d h n1 n2 e0, implMem_0 n a b c d h n1 n2 e0⟩
    · exact ⟨_, _, specMem_1 n a b c d h n1 n2 e0, implMem_1 n a b c d h n1 n2 e0⟩
  · rcases e0 : (c.tmod n == 0) with _ | _
    · exact ⟨_, _, specMem_2 n a b c d h n1 n2 e0, implMem_2 n a b c d h n1 n2 e0⟩
    rcases e1 : ((a - 1).tmod n == 0) with _ | _
    · exact ⟨_, _, specMem_3 n a b c d h n1 n2 e0 e1, implMem_3 n a b c d h n1 n2 e0 e1⟩
    rcases e2 : ((d - 1).tmod n == 0) with _ | _
    · exact ⟨_, _, specMem_4 n a b c d h n1 n2 e0 e1 e2, implMem_4 n a b c d h n1 n2 e0 e1 e2⟩
    · exact ⟨_, _, specMem_8 n a b c d h n1 n2 e0 e1 e2, implMem_8 n a b c d h n1 n2 e0 e1 e2⟩
  · rcases e0 : (c.tmod n == 0) with _ | _
    · exact ⟨_, _, specMem_5 n a b c d h n1 n2 e0, implMem_5 n a b c d h n1 n2 e0⟩
    rcases e1 : ((a - 1).tmod n == 0) with _ | _
    · exact ⟨_, _, specMem_6 n a b c d h n1 n2 e0 e1, implMem_6 n a b c d h n1 n2 e0 e1⟩
    rcases e2 : ((d - 1).tmod n == 0) with _ | _
    · exact ⟨_, _, specMem_7 n a b c d h n1 n2 e0 e1 e2, implMem_7 n a b c d h n1 n2 e0 e1 e2⟩
    rcases e3 : (b.tmod n == 0) with _ | _
    · exact ⟨_, _, specMem_9 n a b c d h n1 n2 e0 e1 e2 e3, implMem_9 n a b c d h n1 n2 e0 e1 e2 e3⟩
    · exact ⟨_, _, specMem_10 n a b c d h n1 n2 e0 e1 e2 e3, implMem_10 n a b c d h n1 n2 e0 e1 e2 e3⟩
end Go.Proofs.Ytmijmlngbahaaaa
