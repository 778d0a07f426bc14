/- The walk of the law FnExactKeptFraction. -/
import Derived.Test.YtempjimoiipkmaaDoorLoKeptFraction
import Derived.Test.YtempjimoiipkmaaDoorKind
import Derived.Test.YtempjimoiipkmaaDoorSKind
import Derived.Test.YtempjimoiipkmaaDoorKeptM
import Derived.Test.YtempjimoiipkmaaDoorTr
namespace Go.Proofs.YtempjimoiipkmaaDoor
open Go.ChangeShapes Go.WideShapes Go.ChangeAt Go.RowKit

theorem ent_mid' {x : Int} (h : Ent x) : Mid x := by unfold Ent at h; unfold Mid; omega
theorem implKind_is (k : Int) (a b c d : Int) (h : isM a b c d = true) (hk : kind a b c d = k) (w : World) (hid : Idn w) :
    Calls Tryd.prog 62 #[(.agg #[.int .i64 a, .int .i64 b, .int .i64 c, .int .i64 d])] w fun e w' => e = .returned (.tuple #[(.int .i64 k), (.int .i64 0)]) ∧ Below w.heap.size w w' := hk ▸ implKind_yes a b c d h w hid
theorem l01Kind_is' (k : Int) (a b c d : Int) (ea : Ent a) (ed : Ent d) (hk : kind a b c d = k) (w : World) :
    Calls Tryd.prog 59 #[(.agg #[.int .i64 a, .int .i64 b, .int .i64 c, .int .i64 d])] w fun e w' => e = .returned (.int .i64 k) ∧ Below w.heap.size w w' := hk ▸ l01Kind_any a b c d ea ed w

set_option maxHeartbeats 1000000 in
theorem implKept_no (a b c d : Int) (h : isM a b c d = false) (w : World) :
    Calls Tryd.prog 29 #[(.agg #[.int .i64 a, .int .i64 b, .int .i64 c, .int .i64 d])] w fun e w' => e = .returned (.tuple #[(.agg #[.int .i64 0, .int .i64 0]), (.int .i64 1)]) ∧ Below w.heap.size w w' := by
  have H := Lib.hid h
  clear h
  go_enter Tryd.func29, Tryd.ntmps29
  go_wp2_with fail
  refine (implKind_no a b c d H.out _).mono ?_
  rintro e w1 ⟨rfl, hb1⟩
  have A1 : Box w1 w.heap.size [.int .i64 a, .int .i64 b, .int .i64 c, .int .i64 d] := Box.below (Box.alloc (Box.new _ _ _) _) hb1
  have R1 : Box w1 (w.heap.size + 1) [.int .i64 0, .int .i64 0] := Box.below (Box.newAt (by simp) _ _) hb1
  obtain ⟨_, _, _, _, _, _, _, _, _⟩ := A1.four
  obtain ⟨_, d0, d1, _, _⟩ := R1.two
  go_wp2
  exact bodyPost_ret (v := .tuple #[(.agg #[.int .i64 0, .int .i64 0]), (.int .i64 1)]) (by simp [results, Tryd.results29, go_sem, d0, d1]) rfl ⟨rfl, by repeat (first | with_reducible exact own_refl _ | with_reducible assumption | with_reducible apply own_alloc | with_reducible apply own_drewN | with_reducible apply own_drew | ((with_reducible refine own_setCell ?_ ?_ _); rotate_left; focus (first | (simp; done) | (simp; omega))) | (with_reducible (refine own_trans ?_ (by assumption))))⟩

set_option maxHeartbeats 1000000 in
theorem implKept_0 (a b c d : Int) (h : isM a b c d = true) (hk : kind a b c d = 0) (w : World) (hid : Idn w) :
    Calls Tryd.prog 29 #[(.agg #[.int .i64 a, .int .i64 b, .int .i64 c, .int .i64 d])] w fun e w' => e = .returned (.tuple #[(.agg #[.int .i64 0, .int .i64 0]), (.int .i64 5)]) ∧ Below w.heap.size w w' := by
  have H := Lib.hid h
  have HK := Lib.hid hk
  clear h hk
  go_enter Tryd.func29, Tryd.ntmps29
  go_wp2_with fail
  refine (implKind_is 0 a b c d H.out HK.out _ ((Rd.alloc hid _).alloc _)).mono ?_
  rintro e w1 ⟨rfl, hb1⟩
  have A1 : Box w1 w.heap.size [.int .i64 a, .int .i64 b, .int .i64 c, .int .i64 d] := Box.below (Box.alloc (Box.new _ _ _) _) hb1
  have R1 : Box w1 (w.heap.size + 1) [.int .i64 0, .int .i64 0] := Box.below (Box.newAt (by simp) _ _) hb1
  obtain ⟨_, _, _, _, _, _, _, _, _⟩ := A1.four
  obtain ⟨_, d0, d1, _, _⟩ := R1.two
  go_wp2
  exact bodyPost_ret (v := .tuple #[(.agg #[.int .i64 0, .int .i64 0]), (.int .i64 5)]) (by simp [results, Tryd.results29, go_sem, d0, d1]) rfl ⟨rfl, by repeat (first | with_reducible exact own_refl _ | with_reducible assumption | with_reducible apply own_alloc | with_reducible apply own_drewN | with_reducible apply own_drew | ((with_reducible refine own_setCell ?_ ?_ _); rotate_left; focus (first | (simp; done) | (simp; omega))) | (with_reducible (refine own_trans ?_ (by assumption))))⟩

set_option maxHeartbeats 1000000 in
theorem implKept_1 (a b c d : Int) (h : isM a b c d = true) (hk : kind a b c d = 1) (w : World) (hid : Idn w) :
    Calls Tryd.prog 29 #[(.agg #[.int .i64 a, .int .i64 b, .int .i64 c, .int .i64 d])] w fun e w' => e = .returned (.tuple #[(.agg #[.int .i64 0, .int .i64 0]), (.int .i64 4)]) ∧ Below w.heap.size w w' := by
  have H := Lib.hid h
  have HK := Lib.hid hk
  clear h hk
  go_enter Tryd.func29, Tryd.ntmps29
  go_wp2_with fail
  refine (implKind_is 1 a b c d H.out HK.out _ ((Rd.alloc hid _).alloc _)).mono ?_
  rintro e w1 ⟨rfl, hb1⟩
  have A1 : Box w1 w.heap.size [.int .i64 a, .int .i64 b, .int .i64 c, .int .i64 d] := Box.below (Box.alloc (Box.new _ _ _) _) hb1
  have R1 : Box w1 (w.heap.size + 1) [.int .i64 0, .int .i64 0] := Box.below (Box.newAt (by simp) _ _) hb1
  obtain ⟨_, _, _, _, _, _, _, _, _⟩ := A1.four
  obtain ⟨_, d0, d1, _, _⟩ := R1.two
  go_wp2
  exact bodyPost_ret (v := .tuple #[(.agg #[.int .i64 0, .int .i64 0]), (.int .i64 4)]) (by simp [results, Tryd.results29, go_sem, d0, d1]) rfl ⟨rfl, by repeat (first | with_reducible exact own_refl _ | with_reducible assumption | with_reducible apply own_alloc | with_reducible apply own_drewN | with_reducible apply own_drew | ((with_reducible refine own_setCell ?_ ?_ _); rotate_left; focus (first | (simp; done) | (simp; omega))) | (with_reducible (refine own_trans ?_ (by assumption))))⟩

set_option maxHeartbeats 1000000 in
theorem implKept_3 (a b c d : Int) (h : isM a b c d = true) (hk : kind a b c d = 3) (w : World) (hid : Idn w) :
    Calls Tryd.prog 29 #[(.agg #[.int .i64 a, .int .i64 b, .int .i64 c, .int .i64 d])] w fun e w' => e = .returned (.tuple #[(.agg #[.int .i64 0, .int .i64 0]), (.int .i64 4)]) ∧ Below w.heap.size w w' := by
  have H := Lib.hid h
  have HK := Lib.hid hk
  clear h hk
  go_enter Tryd.func29, Tryd.ntmps29
  go_wp2_with fail
  refine (implKind_is 3 a b c d H.out HK.out _ ((Rd.alloc hid _).alloc _)).mono ?_
  rintro e w1 ⟨rfl, hb1⟩
  have A1 : Box w1 w.heap.size [.int .i64 a, .int .i64 b, .int .i64 c, .int .i64 d] := Box.below (Box.alloc (Box.new _ _ _) _) hb1
  have R1 : Box w1 (w.heap.size + 1) [.int .i64 0, .int .i64 0] := Box.below (Box.newAt (by simp) _ _) hb1
  obtain ⟨_, _, _, _, _, _, _, _, _⟩ := A1.four
  obtain ⟨_, d0, d1, _, _⟩ := R1.two
  go_wp2
  exact bodyPost_ret (v := .tuple #[(.agg #[.int .i64 0, .int .i64 0]), (.int .i64 4)]) (by simp [results, Tryd.results29, go_sem, d0, d1]) rfl ⟨rfl, by repeat (first | with_reducible exact own_refl _ | with_reducible assumption | with_reducible apply own_alloc | with_reducible apply own_drewN | with_reducible apply own_drew | ((with_reducible refine own_setCell ?_ ?_ _); rotate_left; focus (first | (simp; done) | (simp; omega))) | (with_reducible (refine own_trans ?_ (by assumption))))⟩

set_option maxHeartbeats 1000000 in
theorem implKept_inf (a b c d : Int) (h : isM a b c d = true) (hk : kind a b c d = 2) (hc : c = 0) (w : World) (hid : Idn w) :
    Calls Tryd.prog 29 #[(.agg #[.int .i64 a, .int .i64 b, .int .i64 c, .int .i64 d])] w fun e w' => e = .returned (.tuple #[(.agg #[.int .i64 1, .int .i64 0]), (.int .i64 0)]) ∧ Below w.heap.size w w' := by
  subst hc
  have H := Lib.hid h
  have HK := Lib.hid hk
  clear h hk
  go_enter Tryd.func29, Tryd.ntmps29
  go_wp2_with fail
  refine (implKind_is 2 a b 0 d H.out HK.out _ ((Rd.alloc hid _).alloc _)).mono ?_
  rintro e w1 ⟨rfl, hb1⟩
  have A1 : Box w1 w.heap.size [.int .i64 a, .int .i64 b, .int .i64 0, .int .i64 d] := Box.below (Box.alloc (Box.new _ _ _) _) hb1
  have R1 : Box w1 (w.heap.size + 1) [.int .i64 0, .int .i64 0] := Box.below (Box.newAt (by simp) _ _) hb1
  obtain ⟨_, _, _, _, _, _, _, _, _⟩ := A1.four
  obtain ⟨_, d0, d1, _, _⟩ := R1.two
  go_wp2
  exact bodyPost_ret (v := .tuple #[(.agg #[.int .i64 1, .int .i64 0]), (.int .i64 0)]) (by simp [results, Tryd.results29, go_sem, d0, d1]) rfl ⟨rfl, by repeat (first | with_reducible exact own_refl _ | with_reducible assumption | with_reducible apply own_alloc | with_reducible apply own_drewN | with_reducible apply own_drew | ((with_reducible refine own_setCell ?_ ?_ _); rotate_left; focus (first | (simp; done) | (simp; omega))) | (with_reducible (refine own_trans ?_ (by assumption))))⟩

set_option maxHeartbeats 1000000 in
theorem implKept_fin (a b c d : Int) (h : isM a b c d = true) (hk : kind a b c d = 2) (hc : c ≠ 0) (w : World) (hid : Idn w) :
    Calls Tryd.prog 29 #[(.agg #[.int .i64 a, .int .i64 b, .int .i64 c, .int .i64 d])] w fun e w' => e = .returned (.tuple #[(.agg #[.int .i64 (lowP (a - d) (2 * c)), .int .i64 (lowQ (a - d) (2 * c))]), (.int .i64 0)]) ∧ Below w.heap.size w w' := by
  obtain ⟨⟨_, _⟩, eb, ⟨_, _⟩, ⟨_, _⟩, _⟩ := isM_ent h
  have H := Lib.hid h
  have HK := Lib.hid hk
  have hc' : (c == 0) = false := by simpa using hc
  have m1 : Mid (a - d) := by unfold Mid; omega
  have m2 : Mid (2 * c) := by unfold Mid; omega
  have HZ := Lib.hid (show ¬ (a - d = 0 ∧ 2 * c = 0) by omega)
  clear h hk
  go_enter Tryd.func29, Tryd.ntmps29
  go_wp2_with fail
  refine (implKind_is 2 a b c d H.out HK.out _ ((Rd.alloc hid _).alloc _)).mono ?_
  rintro e w1 ⟨rfl, hb1⟩
  have A1 : Box w1 w.heap.size [.int .i64 a, .int .i64 b, .int .i64 c, .int .i64 d] := Box.below (Box.alloc (Box.new _ _ _) _) hb1
  have R1 : Box w1 (w.heap.size + 1) [.int .i64 0, .int .i64 0] := Box.below (Box.newAt (by simp) _ _) hb1
  obtain ⟨_, _, _, _, _, _, _, _, _⟩ := A1.four
  obtain ⟨_, d0, d1, _, _⟩ := R1.two
  go_wp2_with fail
  refine (implLow_any _ _ m1 m2 HZ.out _).mono ?_
  rintro e w2 ⟨rfl, hb2⟩
  obtain ⟨_, d0, d1, _, _⟩ := (R1.below hb2).two
  go_wp2
  exact bodyPost_ret (v := .tuple #[(.agg #[.int .i64 (lowP (a - d) (2 * c)), .int .i64 (lowQ (a - d) (2 * c))]), (.int .i64 0)]) (by simp [results, Tryd.results29, go_sem, d0, d1]) rfl ⟨rfl, by repeat (first | with_reducible exact own_refl _ | with_reducible assumption | with_reducible apply own_alloc | with_reducible apply own_drewN | with_reducible apply own_drew | ((with_reducible refine own_setCell ?_ ?_ _); rotate_left; focus (first | (simp; done) | (simp; omega))) | (with_reducible (refine own_trans ?_ (by assumption))))⟩

set_option maxHeartbeats 1000000 in
theorem specKept_no (a b c d : Int) (h : isM a b c d = false) (w : World) :
    Calls Tryd.prog 28 #[(.agg #[.int .i64 a, .int .i64 b, .int .i64 c, .int .i64 d])] w fun e w' => e = .returned (.tuple #[(.agg #[.int .i64 0, .int .i64 0]), (.int .i64 1)]) ∧ Below w.heap.size w w' := by
  have H := Lib.hid h
  clear h
  go_enter Tryd.func28, Tryd.ntmps28
  go_wp2_with fail
  refine (l01Is_is false _ _ _ _ _ H.out).mono ?_
  rintro e w1 ⟨rfl, hb1⟩
  have A1 : Box w1 w.heap.size [.int .i64 a, .int .i64 b, .int .i64 c, .int .i64 d] := Box.below (Box.alloc (Box.new _ _ _) _) hb1
  have R1 : Box w1 (w.heap.size + 1) [.int .i64 0, .int .i64 0] := Box.below (Box.newAt (by simp) _ _) hb1
  obtain ⟨_, _, _, _, _, _, _, _, _⟩ := A1.four
  obtain ⟨_, d0, d1, _, _⟩ := R1.two
  go_wp2
  exact bodyPost_ret (v := .tuple #[(.agg #[.int .i64 0, .int .i64 0]), (.int .i64 1)]) (by simp [results, Tryd.results28, go_sem, d0, d1]) rfl ⟨rfl, by repeat (first | with_reducible exact own_refl _ | with_reducible assumption | with_reducible apply own_alloc | with_reducible apply own_drewN | with_reducible apply own_drew | ((with_reducible refine own_setCell ?_ ?_ _); rotate_left; focus (first | (simp; done) | (simp; omega))) | (with_reducible (refine own_trans ?_ (by assumption))))⟩

set_option maxHeartbeats 1000000 in
theorem specKept_0 (a b c d : Int) (h : isM a b c d = true) (hk : kind a b c d = 0) (w : World) :
    Calls Tryd.prog 28 #[(.agg #[.int .i64 a, .int .i64 b, .int .i64 c, .int .i64 d])] w fun e w' => e = .returned (.tuple #[(.agg #[.int .i64 0, .int .i64 0]), (.int .i64 5)]) ∧ Below w.heap.size w w' := by
  obtain ⟨ea, eb, ec, ed, _⟩ := isM_ent h
  have H := Lib.hid h
  have HK := Lib.hid hk
  clear h hk
  go_enter Tryd.func28, Tryd.ntmps28
  go_wp2_with fail
  refine (l01Is_is true _ _ _ _ _ H.out).mono ?_
  rintro e w1 ⟨rfl, hb1⟩
  have A1 : Box w1 w.heap.size [.int .i64 a, .int .i64 b, .int .i64 c, .int .i64 d] := Box.below (Box.alloc (Box.new _ _ _) _) hb1
  have R1 : Box w1 (w.heap.size + 1) [.int .i64 0, .int .i64 0] := Box.below (Box.newAt (by simp) _ _) hb1
  obtain ⟨_, _, _, _, _, _, _, _, _⟩ := A1.four
  obtain ⟨_, d0, d1, _, _⟩ := R1.two
  go_wp2_with fail
  refine (l01Kind_is' 0 _ _ _ _ ea ed HK.out _).mono ?_
  rintro e w2 ⟨rfl, hb2⟩
  have A2 := A1.below hb2
  have R2 := R1.below hb2
  obtain ⟨_, _, _, _, _, _, _, _, _⟩ := A2.four
  obtain ⟨_, d0, d1, _, _⟩ := R2.two
  go_wp2
  exact bodyPost_ret (v := .tuple #[(.agg #[.int .i64 0, .int .i64 0]), (.int .i64 5)]) (by simp [results, Tryd.results28, go_sem, d0, d1]) rfl ⟨rfl, by repeat (first | with_reducible exact own_refl _ | with_reducible assumption | with_reducible apply own_alloc | with_reducible apply own_drewN | with_reducible apply own_drew | ((with_reducible refine own_setCell ?_ ?_ _); rotate_left; focus (first | (simp; done) | (simp; omega))) | (with_reducible (refine own_trans ?_ (by assumption))))⟩

set_option maxHeartbeats 1000000 in
theorem specKept_1 (a b c d : Int) (h : isM a b c d = true) (hk : kind a b c d = 1) (w : World) :
    Calls Tryd.prog 28 #[(.agg #[.int .i64 a, .int .i64 b, .int .i64 c, .int .i64 d])] w fun e w' => e = .returned (.tuple #[(.agg #[.int .i64 0, .int .i64 0]), (.int .i64 4)]) ∧ Below w.heap.size w w' := by
  obtain ⟨ea, eb, ec, ed, _⟩ := isM_ent h
  have H := Lib.hid h
  have HK := Lib.hid hk
  clear h hk
  go_enter Tryd.func28, Tryd.ntmps28
  go_wp2_with fail
  refine (l01Is_is true _ _ _ _ _ H.out).mono ?_
  rintro e w1 ⟨rfl, hb1⟩
  have A1 : Box w1 w.heap.size [.int .i64 a, .int .i64 b, .int .i64 c, .int .i64 d] := Box.below (Box.alloc (Box.new _ _ _) _) hb1
  have R1 : Box w1 (w.heap.size + 1) [.int .i64 0, .int .i64 0] := Box.below (Box.newAt (by simp) _ _) hb1
  obtain ⟨_, _, _, _, _, _, _, _, _⟩ := A1.four
  obtain ⟨_, d0, d1, _, _⟩ := R1.two
  go_wp2_with fail
  refine (l01Kind_is' 1 _ _ _ _ ea ed HK.out _).mono ?_
  rintro e w2 ⟨rfl, hb2⟩
  have A2 := A1.below hb2
  have R2 := R1.below hb2
  obtain ⟨_, _, _, _, _, _, _, _, _⟩ := A2.four
  obtain ⟨_, d0, d1, _, _⟩ := R2.two
  go_wp2
  exact bodyPost_ret (v := .tuple #[(.agg #[.int .i64 0, .int .i64 0]), (.int .i64 4)]) (by simp [results, Tryd.results28, go_sem, d0, d1]) rfl ⟨rfl, by repeat (first | with_reducible exact own_refl _ | with_reducible assumption | with_reducible apply own_alloc | with_reducible apply own_drewN | with_reducible apply own_drew | ((with_reducible refine own_setCell ?_ ?_ _); rotate_left; focus (first | (simp; done) | (simp; omega))) | (with_reducible (refine own_trans ?_ (by assumption))))⟩

set_option maxHeartbeats 1000000 in
theorem specKept_3 (a b c d : Int) (h : isM a b c d = true) (hk : kind a b c d = 3) (w : World) :
    Calls Tryd.prog 28 #[(.agg #[.int .i64 a, .int .i64 b, .int .i64 c, .int .i64 d])] w fun e w' => e = .returned (.tuple #[(.agg #[.int .i64 0, .int .i64 0]), (.int .i64 4)]) ∧ Below w.heap.size w w' := by
  obtain ⟨ea, eb, ec, ed, _⟩ := isM_ent h
  have H := Lib.hid h
  have HK := Lib.hid hk
  clear h hk
  go_enter Tryd.func28, Tryd.ntmps28
  go_wp2_with fail
  refine (l01Is_is true _ _ _ _ _ H.out).mono ?_
  rintro e w1 ⟨rfl, hb1⟩
  have A1 : Box w1 w.heap.size [.int .i64 a, .int .i64 b, .int .i64 c, .int .i64 d] := Box.below (Box.alloc (Box.new _ _ _) _) hb1
  have R1 : Box w1 (w.heap.size + 1) [.int .i64 0, .int .i64 0] := Box.below (Box.newAt (by simp) _ _) hb1
  obtain ⟨_, _, _, _, _, _, _, _, _⟩ := A1.four
  obtain ⟨_, d0, d1, _, _⟩ := R1.two
  go_wp2_with fail
  refine (l01Kind_is' 3 _ _ _ _ ea ed HK.out _).mono ?_
  rintro e w2 ⟨rfl, hb2⟩
  have A2 := A1.below hb2
  have R2 := R1.below hb2
  obtain ⟨_, _, _, _, _, _, _, _, _⟩ := A2.four
  obtain ⟨_, d0, d1, _, _⟩ := R2.two
  go_wp2
  exact bodyPost_ret (v := .tuple #[(.agg #[.int .i64 0, .int .i64 0]), (.int .i64 4)]) (by simp [results, Tryd.results28, go_sem, d0, d1]) rfl ⟨rfl, by repeat (first | with_reducible exact own_refl _ | with_reducible assumption | with_reducible apply own_alloc | with_reducible apply own_drewN | with_reducible apply own_drew | ((with_reducible refine own_setCell ?_ ?_ _); rotate_left; focus (first | (simp; done) | (simp; omega))) | (with_reducible (refine own_trans ?_ (by assumption))))⟩

set_option maxHeartbeats 1000000 in
theorem specKept_b (a b c d : Int) (h : isM a b c d = true) (hk : kind a b c d = 2) (hb : b ≠ 0) (s : Int) (hs : (a + d).tdiv 2 = s) (hs1 : -1 ≤ s) (hs2 : s ≤ 1) (w : World) :
    Calls Tryd.prog 28 #[(.agg #[.int .i64 a, .int .i64 b, .int .i64 c, .int .i64 d])] w fun e w' => e = .returned (.tuple #[(.agg #[.int .i64 (lowP b (s - a)), .int .i64 (lowQ b (s - a))]), (.int .i64 0)]) ∧ Below w.heap.size w w' := by
  obtain ⟨⟨_, _⟩, ⟨_, _⟩, ⟨_, _⟩, ⟨_, _⟩, _⟩ := isM_ent h
  have m1 : Mid b := by unfold Mid; omega
  have m2 : Mid (s - a) := by unfold Mid; omega
  have HZ := Lib.hid (show ¬ (b = 0 ∧ (s - a) = 0) by omega)
  have hb' : (b == 0) = false := by simpa using hb
  obtain ⟨ea, eb, ec, ed, _⟩ := isM_ent h
  have H := Lib.hid h
  have HK := Lib.hid hk
  clear h hk
  go_enter Tryd.func28, Tryd.ntmps28
  go_wp2_with fail
  refine (l01Is_is true _ _ _ _ _ H.out).mono ?_
  rintro e w1 ⟨rfl, hb1⟩
  have A1 : Box w1 w.heap.size [.int .i64 a, .int .i64 b, .int .i64 c, .int .i64 d] := Box.below (Box.alloc (Box.new _ _ _) _) hb1
  have R1 : Box w1 (w.heap.size + 1) [.int .i64 0, .int .i64 0] := Box.below (Box.newAt (by simp) _ _) hb1
  obtain ⟨_, _, _, _, _, _, _, _, _⟩ := A1.four
  obtain ⟨_, d0, d1, _, _⟩ := R1.two
  go_wp2_with fail
  refine (l01Kind_is' 2 _ _ _ _ ea ed HK.out _).mono ?_
  rintro e w2 ⟨rfl, hb2⟩
  have A2 := A1.below hb2
  have R2 := R1.below hb2
  obtain ⟨_, _, _, _, _, _, _, _, _⟩ := A2.four
  obtain ⟨_, d0, d1, _, _⟩ := R2.two
  go_wp2_with fail
  refine (l01Trace_any _ _ _ _ ea ed _).mono ?_
  rintro e w3 ⟨rfl, hb3⟩
  have A3 := A2.below hb3
  have R3 := R2.below hb3
  obtain ⟨_, _, _, _, _, _, _, _, _⟩ := A3.four
  obtain ⟨_, d0, d1, _, _⟩ := R3.two
  go_wp2_with fail
  refine (specLow_any _ _ m1 m2 HZ.out _).mono ?_
  rintro e w4 ⟨rfl, hb4⟩
  have R4 := R3.below hb4
  obtain ⟨_, d0, d1, _, _⟩ := R4.two
  have n4 : ¬ (w4.heap.size = w.heap.size + 1) := Nat.ne_of_gt R4.1
  have n4' : ¬ (w.heap.size + 1 = w4.heap.size) := Nat.ne_of_lt R4.1
  go_wp2
  have F := (R4.put2 (.int .i64 (lowP b (s - a))) (.int .i64 (lowQ b (s - a)))).alloc (.cells #[.int .i64 (lowP b (s - a)), .int .i64 (lowQ b (s - a))] 43)
  obtain ⟨_, g0, g1, _, _⟩ := F.two
  exact bodyPost_ret (v := .tuple #[(.agg #[.int .i64 (lowP b (s - a)), .int .i64 (lowQ b (s - a))]), (.int .i64 0)]) (by simp [results, Tryd.results28, go_sem, g0, g1]) rfl ⟨rfl, by repeat (first | with_reducible exact own_refl _ | with_reducible assumption | with_reducible apply own_alloc | with_reducible apply own_drewN | with_reducible apply own_drew | ((with_reducible refine own_setCell ?_ ?_ _); rotate_left; focus (first | (simp; done) | (simp; omega))) | (with_reducible (refine own_trans ?_ (by assumption))))⟩

set_option maxHeartbeats 1000000 in
theorem specKept_z (a c d : Int) (h : isM a 0 c d = true) (hk : kind a 0 c d = 2) (hc : c ≠ 0) (s : Int) (hs : (a + d).tdiv 2 = s) (hs1 : -1 ≤ s) (hs2 : s ≤ 1) (w : World) :
    Calls Tryd.prog 28 #[(.agg #[.int .i64 a, .int .i64 0, .int .i64 c, .int .i64 d])] w fun e w' => e = .returned (.tuple #[(.agg #[.int .i64 (lowP (s - d) c), .int .i64 (lowQ (s - d) c)]), (.int .i64 0)]) ∧ Below w.heap.size w w' := by
  obtain ⟨⟨_, _⟩, ⟨_, _⟩, ⟨_, _⟩, ⟨_, _⟩, _⟩ := isM_ent h
  have m1 : Mid (s - d) := by unfold Mid; omega
  have m2 : Mid c := by unfold Mid; omega
  have HZ := Lib.hid (show ¬ ((s - d) = 0 ∧ c = 0) by omega)
  obtain ⟨ea, eb, ec, ed, _⟩ := isM_ent h
  have H := Lib.hid h
  have HK := Lib.hid hk
  clear h hk
  go_enter Tryd.func28, Tryd.ntmps28
  go_wp2_with fail
  refine (l01Is_is true _ _ _ _ _ H.out).mono ?_
  rintro e w1 ⟨rfl, hb1⟩
  have A1 : Box w1 w.heap.size [.int .i64 a, .int .i64 0, .int .i64 c, .int .i64 d] := Box.below (Box.alloc (Box.new _ _ _) _) hb1
  have R1 : Box w1 (w.heap.size + 1) [.int .i64 0, .int .i64 0] := Box.below (Box.newAt (by simp) _ _) hb1
  obtain ⟨_, _, _, _, _, _, _, _, _⟩ := A1.four
  obtain ⟨_, d0, d1, _, _⟩ := R1.two
  go_wp2_with fail
  refine (l01Kind_is' 2 _ _ _ _ ea ed HK.out _).mono ?_
  rintro e w2 ⟨rfl, hb2⟩
  have A2 := A1.below hb2
  have R2 := R1.below hb2
  obtain ⟨_, _, _, _, _, _, _, _, _⟩ := A2.four
  obtain ⟨_, d0, d1, _, _⟩ := R2.two
  go_wp2_with fail
  refine (l01Trace_any _ _ _ _ ea ed _).mono ?_
  rintro e w3 ⟨rfl, hb3⟩
  have A3 := A2.below hb3
  have R3 := R2.below hb3
  obtain ⟨_, _, _, _, _, _, _, _, _⟩ := A3.four
  obtain ⟨_, d0, d1, _, _⟩ := R3.two
  go_wp2_with fail
  refine (specLow_any _ _ m1 m2 HZ.out _).mono ?_
  rintro e w4 ⟨rfl, hb4⟩
  have R4 := R3.below hb4
  obtain ⟨_, d0, d1, _, _⟩ := R4.two
  have n4 : ¬ (w4.heap.size = w.heap.size + 1) := Nat.ne_of_gt R4.1
  have n4' : ¬ (w.heap.size + 1 = w4.heap.size) := Nat.ne_of_lt R4.1
  go_wp2
  exact bodyPost_ret (v := .tuple #[(.agg #[.int .i64 (lowP (s - d) c), .int .i64 (lowQ (s - d) c)]), (.int .i64 0)]) (by simp [results, Tryd.results28, go_sem, d0, d1]) rfl ⟨rfl, by repeat (first | with_reducible exact own_refl _ | with_reducible assumption | with_reducible apply own_alloc | with_reducible apply own_drewN | with_reducible apply own_drew | ((with_reducible refine own_setCell ?_ ?_ _); rotate_left; focus (first | (simp; done) | (simp; omega))) | (with_reducible (refine own_trans ?_ (by assumption))))⟩

theorem kind2 {a b c d : Int} (h : kind a b c d = 2) : ¬ (b = 0 ∧ c = 0) ∧ (a + d).natAbs = 2 := by
  unfold kind at h
  by_cases h0 : b = 0 ∧ c = 0
  · rw [if_pos h0] at h; omega
  · rw [if_neg h0] at h
    by_cases h1 : (a + d).natAbs < 2
    · rw [if_pos h1] at h; omega
    · rw [if_neg h1] at h
      by_cases h2 : (a + d).natAbs = 2
      · exact ⟨h0, h2⟩
      · rw [if_neg h2] at h; omega
theorem kind_four (a b c d : Int) : kind a b c d = 0 ∨ kind a b c d = 1 ∨ kind a b c d = 2 ∨ kind a b c d = 3 := by
  unfold kind
  split
  · exact .inl rfl
  · split
    · exact .inr (.inl rfl)
    · split
      · exact .inr (.inr (.inl rfl))
      · exact .inr (.inr (.inr rfl))
theorem lawKeptFraction_walk (a b c d : Int) (_ : I64 a) (_ : I64 b) (_ : I64 c) (_ : I64 d) (w : World) (hid : Idn w) :
    Calls Tryd.prog 8 #[(.agg #[.int .i64 a, .int .i64 b, .int .i64 c, .int .i64 d])] w fun e w' => e = .returned (.bool true) ∧ Below w.heap.size w w' := by
  rcases h : isM a b c d with _ | _
  · exact lawKeptFraction_of a b c d 0 0 1 (fun w => specKept_no a b c d h w) (fun w _ => implKept_no a b c d h w) w hid
  have hdet := (isM_ent h).2.2.2.2
  rcases kind_four a b c d with hk | hk | hk | hk
  · exact lawKeptFraction_of a b c d 0 0 5 (fun w => specKept_0 a b c d h hk w) (fun w hi => implKept_0 a b c d h hk w hi) w hid
  · exact lawKeptFraction_of a b c d 0 0 4 (fun w => specKept_1 a b c d h hk w) (fun w hi => implKept_1 a b c d h hk w hi) w hid
  · obtain ⟨hbc, ht⟩ := kind2 hk
    have hs := half ht
    obtain ⟨s, hs0⟩ : ∃ s, (a + d).tdiv 2 = s := ⟨_, rfl⟩
    rw [hs0] at hs
    have hs1 : -1 ≤ s := by omega
    have hs2 : s ≤ 1 := by omega
    by_cases hc : c = 0
    · have hb : b ≠ 0 := fun hb => hbc ⟨hb, hc⟩
      have hd' : a * d = 1 := by rw [hc] at hdet; simpa using hdet
      obtain ⟨e1, e2⟩ := kept_inf hd' hs hb
      have hs' := fun w => specKept_b a b c d h hk hb s hs0 hs1 hs2 w
      rw [e1, e2] at hs'
      exact lawKeptFraction_of a b c d 1 0 0 hs' (fun w hi => implKept_inf a b c d h hk hc w hi) w hid
    · by_cases hb : b = 0
      · have hd' : a * d = 1 := by rw [hb] at hdet; simpa using hdet
        obtain ⟨e1, e2⟩ := kept_0 hd' hs hc
        subst hb
        have hs' := fun w => specKept_z a c d h hk hc s hs0 hs1 hs2 w
        rw [e1, e2] at hs'
        exact lawKeptFraction_of a 0 c d _ _ 0 hs' (fun w hi => implKept_fin a 0 c d h hk hc w hi) w hid
      · obtain ⟨e1, e2⟩ := kept_b hdet hs hb hc
        have hs' := fun w => specKept_b a b c d h hk hb s hs0 hs1 hs2 w
        rw [e1, e2] at hs'
        exact lawKeptFraction_of a b c d _ _ 0 hs' (fun w hi => implKept_fin a b c d h hk hc w hi) w hid
  · exact lawKeptFraction_of a b c d 0 0 4 (fun w => specKept_3 a b c d h hk w) (fun w hi => implKept_3 a b c d h hk w hi) w hid
end Go.Proofs.YtempjimoiipkmaaDoor
