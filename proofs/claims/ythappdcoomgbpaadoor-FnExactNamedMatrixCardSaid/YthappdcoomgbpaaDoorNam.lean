/- NamedMatrix: contracts of both sides. -/
import Derived.Test.YthappdcoomgbpaaDoorNamed
namespace Go.Proofs.YthappdcoomgbpaaDoor
open Go.ChangeShapes Go.WideShapes Go.ChangeAt Go.RowKit

theorem Box.reads4n {w : World} {g : Nat} {x0 x1 x2 x3 : Value} (h : Box w g [x0, x1, x2, x3]) (y0 y1 y2 y3 : Value) :
    (w.setCell ⟨g, 0, none⟩ y0).cell? ⟨g, 0, none⟩ = some y0 ∧ ((w.setCell ⟨g, 0, none⟩ y0).setCell ⟨g, 1, none⟩ y1).cell? ⟨g, 1, none⟩ = some y1 ∧
      (((w.setCell ⟨g, 0, none⟩ y0).setCell ⟨g, 1, none⟩ y1).setCell ⟨g, 2, none⟩ y2).cell? ⟨g, 2, none⟩ = some y2 ∧ ((((w.setCell ⟨g, 0, none⟩ y0).setCell ⟨g, 1, none⟩ y1).setCell ⟨g, 2, none⟩ y2).setCell ⟨g, 3, none⟩ y3).cell? ⟨g, 3, none⟩ = some y3 :=
  ⟨((h.set 0 (by simp) y0).four).2.1, (((h.set 0 (by simp) y0).set 1 (by simp) y1).four).2.2.1, ((((h.set 0 (by simp) y0).set 1 (by simp) y1).set 2 (by simp) y2).four).2.2.2.1, (h.put4 y0 y1 y2 y3).four.2.2.2.2.1⟩
set_option maxRecDepth 100000 in
set_option maxHeartbeats 2000000 in
theorem implNam_yes (s : ByteArray) (m : Mat) (hz : s.size ≤ maxLen) (hf : namedF (.string s.data.toList) = some m) (w : World) (hid : Idn w) (hmx : MxS w) :
    Calls Tryd.prog 10 #[.string s] w fun e w' => e = .returned (.tuple #[(.agg #[.int .i64 m.a, .int .i64 m.b, .int .i64 m.c, .int .i64 m.d]), (.int .i64 0)]) ∧ Below w.heap.size w w' := by
  have HF := Lib.hid hf
  have HZ := Lib.hid hz
  clear hf hz
  go_enter Tryd.func10, Tryd.ntmps10
  go_wp2_with fail
  refine (named_any _ (Rd.alloc hid _) (Rd.alloc hmx _)).mono ?_
  rintro e w1 ⟨rfl, l1, hb1⟩
  have hl := l1.look str_keyed (.string s) _ (str_key s HZ.out)
  rw [HF.out] at hl
  simp only [matV, Option.getD_some, Option.isSome_some, World.size_alloc] at hl
  have Z1 : Box w1 w.heap.size [.int .i64 0, .int .i64 0, .int .i64 0, .int .i64 0] := Box.below (Box.new _ _ _) hb1
  have hz1 : ¬ (w1.heap.size = w.heap.size) := Nat.ne_of_gt Z1.1
  have Z2 := Z1.alloc (.cells #[.int .i64 m.a, .int .i64 m.b, .int .i64 m.c, .int .i64 m.d] 23)
  obtain ⟨_, _, _, _, _, _, _, _, _⟩ := Z1.four
  clear l1
  go_wp2
  obtain ⟨_, d0, d1, d2, d3, _, _, _, _⟩ := ((Z1.put4 (.int .i64 m.a) (.int .i64 m.b) (.int .i64 m.c) (.int .i64 m.d)).alloc (.cells #[.int .i64 m.a, .int .i64 m.b, .int .i64 m.c, .int .i64 m.d] 23)).four
  exact bodyPost_ret (v := .tuple #[(.agg #[.int .i64 m.a, .int .i64 m.b, .int .i64 m.c, .int .i64 m.d]), (.int .i64 0)]) (by simp [results, Tryd.results10, go_sem, d0, d1, d2, d3]) rfl ⟨rfl, by repeat (first | with_reducible exact own_refl _ | with_reducible assumption | with_reducible apply own_alloc | with_reducible apply own_drewN | with_reducible apply own_drew | ((with_reducible refine own_setCell ?_ ?_ _); rotate_left; focus (first | (simp; done) | (simp; omega))) | (with_reducible (refine own_trans ?_ (by assumption))))⟩
set_option maxRecDepth 100000 in
set_option maxHeartbeats 2000000 in
theorem implNam_no (s : ByteArray) (hz : s.size ≤ maxLen) (hf : namedF (.string s.data.toList) = none) (w : World) (hid : Idn w) (hmx : MxS w) :
    Calls Tryd.prog 10 #[.string s] w fun e w' => e = .returned (.tuple #[(.agg #[.int .i64 0, .int .i64 0, .int .i64 0, .int .i64 0]), (.int .i64 4)]) ∧ Below w.heap.size w w' := by
  have HF := Lib.hid hf
  have HZ := Lib.hid hz
  clear hf hz
  go_enter Tryd.func10, Tryd.ntmps10
  go_wp2_with fail
  refine (named_any _ (Rd.alloc hid _) (Rd.alloc hmx _)).mono ?_
  rintro e w1 ⟨rfl, l1, hb1⟩
  have hl := l1.look str_keyed (.string s) _ (str_key s HZ.out)
  rw [HF.out] at hl
  simp only [matV, Mat.zero, Option.getD_none, Option.isSome_none, World.size_alloc] at hl
  have Z1 : Box w1 w.heap.size [.int .i64 0, .int .i64 0, .int .i64 0, .int .i64 0] := Box.below (Box.new _ _ _) hb1
  have hz1 : ¬ (w1.heap.size = w.heap.size) := Nat.ne_of_gt Z1.1
  obtain ⟨_, _, _, _, _, _, _, _, _⟩ := Z1.four
  clear l1
  go_wp2
  obtain ⟨_, d0, d1, d2, d3, _, _, _, _⟩ := ((Z1.put4 (.int .i64 0) (.int .i64 0) (.int .i64 0) (.int .i64 0)).alloc (.cells #[.int .i64 0, .int .i64 0, .int .i64 0, .int .i64 0] 23)).four
  exact bodyPost_ret (v := .tuple #[(.agg #[.int .i64 0, .int .i64 0, .int .i64 0, .int .i64 0]), (.int .i64 4)]) (by simp [results, Tryd.results10, go_sem, d0, d1, d2, d3]) rfl ⟨rfl, by repeat (first | with_reducible exact own_refl _ | with_reducible assumption | with_reducible apply own_alloc | with_reducible apply own_drewN | with_reducible apply own_drew | ((with_reducible refine own_setCell ?_ ?_ _); rotate_left; focus (first | (simp; done) | (simp; omega))) | (with_reducible (refine own_trans ?_ (by assumption))))⟩
set_option maxRecDepth 100000 in
set_option maxHeartbeats 1000000 in
theorem specNamed_0 (s : ByteArray) (h0 : (s.toList == [83]) = true) (w : World) :
    Calls Tryd.prog 28 #[.string s] w fun e w' => e = .returned (.tuple #[(.agg #[.int .i64 0, .int .i64 (-1), .int .i64 1, .int .i64 0]), .bool true]) ∧ Below w.heap.size w w' := by
  go_enter Tryd.func28, Tryd.ntmps28
  go_wp2
  exact bodyPost_ret (v := .tuple #[(.agg #[.int .i64 0, .int .i64 (-1), .int .i64 1, .int .i64 0]), .bool true]) (by simp [results, Tryd.results28, go_sem]) rfl ⟨rfl, by repeat (first | with_reducible exact own_refl _ | with_reducible assumption | with_reducible apply own_alloc | with_reducible apply own_drewN | with_reducible apply own_drew | ((with_reducible refine own_setCell ?_ ?_ _); rotate_left; focus (first | (simp; done) | (simp; omega))) | (with_reducible (refine own_trans ?_ (by assumption))))⟩
set_option maxRecDepth 100000 in
set_option maxHeartbeats 1000000 in
theorem specNamed_1 (s : ByteArray) (h0 : (s.toList == [83]) = false) (h1 : (s.toList == [84]) = true) (w : World) :
    Calls Tryd.prog 28 #[.string s] w fun e w' => e = .returned (.tuple #[(.agg #[.int .i64 1, .int .i64 1, .int .i64 0, .int .i64 1]), .bool true]) ∧ Below w.heap.size w w' := by
  go_enter Tryd.func28, Tryd.ntmps28
  go_wp2
  exact bodyPost_ret (v := .tuple #[(.agg #[.int .i64 1, .int .i64 1, .int .i64 0, .int .i64 1]), .bool true]) (by simp [results, Tryd.results28, go_sem]) rfl ⟨rfl, by repeat (first | with_reducible exact own_refl _ | with_reducible assumption | with_reducible apply own_alloc | with_reducible apply own_drewN | with_reducible apply own_drew | ((with_reducible refine own_setCell ?_ ?_ _); rotate_left; focus (first | (simp; done) | (simp; omega))) | (with_reducible (refine own_trans ?_ (by assumption))))⟩
set_option maxRecDepth 100000 in
set_option maxHeartbeats 1000000 in
theorem specNamed_2 (s : ByteArray) (h0 : (s.toList == [83]) = false) (h1 : (s.toList == [84]) = false) (h2 : (s.toList == [76]) = true) (w : World) :
    Calls Tryd.prog 28 #[.string s] w fun e w' => e = .returned (.tuple #[(.agg #[.int .i64 1, .int .i64 0, .int .i64 1, .int .i64 1]), .bool true]) ∧ Below w.heap.size w w' := by
  go_enter Tryd.func28, Tryd.ntmps28
  go_wp2
  exact bodyPost_ret (v := .tuple #[(.agg #[.int .i64 1, .int .i64 0, .int .i64 1, .int .i64 1]), .bool true]) (by simp [results, Tryd.results28, go_sem]) rfl ⟨rfl, by repeat (first | with_reducible exact own_refl _ | with_reducible assumption | with_reducible apply own_alloc | with_reducible apply own_drewN | with_reducible apply own_drew | ((with_reducible refine own_setCell ?_ ?_ _); rotate_left; focus (first | (simp; done) | (simp; omega))) | (with_reducible (refine own_trans ?_ (by assumption))))⟩
set_option maxRecDepth 100000 in
set_option maxHeartbeats 1000000 in
theorem specNamed_3 (s : ByteArray) (h0 : (s.toList == [83]) = false) (h1 : (s.toList == [84]) = false) (h2 : (s.toList == [76]) = false) (h3 : (s.toList == [85]) = true) (w : World) :
    Calls Tryd.prog 28 #[.string s] w fun e w' => e = .returned (.tuple #[(.agg #[.int .i64 1, .int .i64 (-1), .int .i64 1, .int .i64 0]), .bool true]) ∧ Below w.heap.size w w' := by
  go_enter Tryd.func28, Tryd.ntmps28
  go_wp2
  exact bodyPost_ret (v := .tuple #[(.agg #[.int .i64 1, .int .i64 (-1), .int .i64 1, .int .i64 0]), .bool true]) (by simp [results, Tryd.results28, go_sem]) rfl ⟨rfl, by repeat (first | with_reducible exact own_refl _ | with_reducible assumption | with_reducible apply own_alloc | with_reducible apply own_drewN | with_reducible apply own_drew | ((with_reducible refine own_setCell ?_ ?_ _); rotate_left; focus (first | (simp; done) | (simp; omega))) | (with_reducible (refine own_trans ?_ (by assumption))))⟩
set_option maxRecDepth 100000 in
set_option maxHeartbeats 1000000 in
theorem specNamed_4 (s : ByteArray) (h0 : (s.toList == [83]) = false) (h1 : (s.toList == [84]) = false) (h2 : (s.toList == [76]) = false) (h3 : (s.toList == [85]) = false) (h4 : (s.toList == [73]) = true) (w : World) :
    Calls Tryd.prog 28 #[.string s] w fun e w' => e = .returned (.tuple #[(.agg #[.int .i64 1, .int .i64 0, .int .i64 0, .int .i64 1]), .bool true]) ∧ Below w.heap.size w w' := by
  go_enter Tryd.func28, Tryd.ntmps28
  go_wp2
  exact bodyPost_ret (v := .tuple #[(.agg #[.int .i64 1, .int .i64 0, .int .i64 0, .int .i64 1]), .bool true]) (by simp [results, Tryd.results28, go_sem]) rfl ⟨rfl, by repeat (first | with_reducible exact own_refl _ | with_reducible assumption | with_reducible apply own_alloc | with_reducible apply own_drewN | with_reducible apply own_drew | ((with_reducible refine own_setCell ?_ ?_ _); rotate_left; focus (first | (simp; done) | (simp; omega))) | (with_reducible (refine own_trans ?_ (by assumption))))⟩
set_option maxRecDepth 100000 in
set_option maxHeartbeats 1000000 in
theorem specNamed_5 (s : ByteArray) (h0 : (s.toList == [83]) = false) (h1 : (s.toList == [84]) = false) (h2 : (s.toList == [76]) = false) (h3 : (s.toList == [85]) = false) (h4 : (s.toList == [73]) = false) (w : World) :
    Calls Tryd.prog 28 #[.string s] w fun e w' => e = .returned (.tuple #[(.agg #[.int .i64 0, .int .i64 0, .int .i64 0, .int .i64 0]), .bool false]) ∧ Below w.heap.size w w' := by
  go_enter Tryd.func28, Tryd.ntmps28
  go_wp2
  exact bodyPost_ret (v := .tuple #[(.agg #[.int .i64 0, .int .i64 0, .int .i64 0, .int .i64 0]), .bool false]) (by simp [results, Tryd.results28, go_sem]) rfl ⟨rfl, by repeat (first | with_reducible exact own_refl _ | with_reducible assumption | with_reducible apply own_alloc | with_reducible apply own_drewN | with_reducible apply own_drew | ((with_reducible refine own_setCell ?_ ?_ _); rotate_left; focus (first | (simp; done) | (simp; omega))) | (with_reducible (refine own_trans ?_ (by assumption))))⟩
/-- What a name names. -/
def nmF (l : List UInt8) : Option Mat :=
  if (l == [83]) = true then some ⟨0, -1, 1, 0⟩ else if (l == [84]) = true then some ⟨1, 1, 0, 1⟩ else if (l == [76]) = true then some ⟨1, 0, 1, 1⟩ else if (l == [85]) = true then some ⟨1, -1, 1, 0⟩ else
  if (l == [73]) = true then some ⟨1, 0, 0, 1⟩ else none
theorem namedF_str (l : List UInt8) : namedF (.string l) = nmF l := by
  unfold namedF nmF
  simp only [Lit.string.injEq, beq_iff_eq]
  by_cases h1 : l = [83]
  · subst h1; simp
  by_cases h2 : l = [84]
  · subst h2; simp
  by_cases h3 : l = [76]
  · subst h3; simp
  by_cases h4 : l = [85]
  · subst h4; simp
  by_cases h5 : l = [73]
  · subst h5; simp
  simp [h1, h2, h3, h4, h5]
theorem specNamed_any (s : ByteArray) (w : World) :
    Calls Tryd.prog 28 #[.string s] w fun e w' => e = .returned (.tuple #[(.agg #[.int .i64 (((nmF s.toList).getD Mat.zero).a), .int .i64 (((nmF s.toList).getD Mat.zero).b), .int .i64 (((nmF s.toList).getD Mat.zero).c), .int .i64 (((nmF s.toList).getD Mat.zero).d)]), .bool (nmF s.toList).isSome]) ∧ Below w.heap.size w w' := by
  unfold nmF
  rcases h0 : (s.toList == [83]) with _ | _
  rotate_left
  · exact specNamed_0 s h0 w
  rcases h1 : (s.toList == [84]) with _ | _
  rotate_left
  · exact specNamed_1 s h0 h1 w
  rcases h2 : (s.toList == [76]) with _ | _
  rotate_left
  · exact specNamed_2 s h0 h1 h2 w
  rcases h3 : (s.toList == [85]) with _ | _
  rotate_left
  · exact specNamed_3 s h0 h1 h2 h3 w
  rcases h4 : (s.toList == [73]) with _ | _
  rotate_left
  · exact specNamed_4 s h0 h1 h2 h3 h4 w
  exact specNamed_5 s h0 h1 h2 h3 h4 w
theorem specNamed_is (s : ByteArray) (r : Option Mat) (h : nmF s.toList = r) (w : World) :
    Calls Tryd.prog 28 #[.string s] w fun e w' => e = .returned (.tuple #[(.agg #[.int .i64 ((r.getD Mat.zero).a), .int .i64 ((r.getD Mat.zero).b), .int .i64 ((r.getD Mat.zero).c), .int .i64 ((r.getD Mat.zero).d)]), .bool r.isSome]) ∧ Below w.heap.size w w' := h ▸ specNamed_any s w
set_option maxRecDepth 100000 in
set_option maxHeartbeats 1000000 in
theorem specNam_yes (s : ByteArray) (m : Mat) (hf : nmF s.toList = some m) (w : World) :
    Calls Tryd.prog 9 #[.string s] w fun e w' => e = .returned (.tuple #[(.agg #[.int .i64 m.a, .int .i64 m.b, .int .i64 m.c, .int .i64 m.d]), (.int .i64 0)]) ∧ Below w.heap.size w w' := by
  have HF := Lib.hid (specNamed_is s (some m) hf)
  clear hf
  go_enter Tryd.func9, Tryd.ntmps9
  go_wp2_with fail
  refine (HF.out _).mono ?_
  simp only [Option.getD_some, Option.isSome_some]
  rintro e w1 ⟨rfl, hb1⟩
  have Z1 : Box w1 w.heap.size [.int .i64 0, .int .i64 0, .int .i64 0, .int .i64 0] := Box.below (Box.new _ _ _) hb1
  have hz1 : ¬ (w1.heap.size = w.heap.size) := Nat.ne_of_gt Z1.1
  obtain ⟨_, _, _, _, _, _, _, _, _⟩ := Z1.four
  go_wp2
  obtain ⟨_, d0, d1, d2, d3, _, _, _, _⟩ := ((Z1.put4 (.int .i64 m.a) (.int .i64 m.b) (.int .i64 m.c) (.int .i64 m.d)).alloc (.cells #[.int .i64 m.a, .int .i64 m.b, .int .i64 m.c, .int .i64 m.d] 23)).four
  exact bodyPost_ret (v := .tuple #[(.agg #[.int .i64 m.a, .int .i64 m.b, .int .i64 m.c, .int .i64 m.d]), (.int .i64 0)]) (by simp [results, Tryd.results9, go_sem, d0, d1, d2, d3]) rfl ⟨rfl, by repeat (first | with_reducible exact own_refl _ | with_reducible assumption | with_reducible apply own_alloc | with_reducible apply own_drewN | with_reducible apply own_drew | ((with_reducible refine own_setCell ?_ ?_ _); rotate_left; focus (first | (simp; done) | (simp; omega))) | (with_reducible (refine own_trans ?_ (by assumption))))⟩
set_option maxRecDepth 100000 in
set_option maxHeartbeats 1000000 in
theorem specNam_no (s : ByteArray) (hf : nmF s.toList = none) (w : World) :
    Calls Tryd.prog 9 #[.string s] w fun e w' => e = .returned (.tuple #[(.agg #[.int .i64 0, .int .i64 0, .int .i64 0, .int .i64 0]), (.int .i64 4)]) ∧ Below w.heap.size w w' := by
  have HF := Lib.hid (specNamed_is s none hf)
  clear hf
  go_enter Tryd.func9, Tryd.ntmps9
  go_wp2_with fail
  refine (HF.out _).mono ?_
  simp only [Mat.zero, Option.getD_none, Option.isSome_none]
  rintro e w1 ⟨rfl, hb1⟩
  have Z1 : Box w1 w.heap.size [.int .i64 0, .int .i64 0, .int .i64 0, .int .i64 0] := Box.below (Box.new _ _ _) hb1
  have hz1 : ¬ (w1.heap.size = w.heap.size) := Nat.ne_of_gt Z1.1
  obtain ⟨_, _, _, _, _, _, _, _, _⟩ := Z1.four
  go_wp2
  obtain ⟨_, d0, d1, d2, d3, _, _, _, _⟩ := ((Z1.put4 (.int .i64 0) (.int .i64 0) (.int .i64 0) (.int .i64 0)).alloc (.cells #[.int .i64 0, .int .i64 0, .int .i64 0, .int .i64 0] 23)).four
  exact bodyPost_ret (v := .tuple #[(.agg #[.int .i64 0, .int .i64 0, .int .i64 0, .int .i64 0]), (.int .i64 4)]) (by simp [results, Tryd.results9, go_sem, d0, d1, d2, d3]) rfl ⟨rfl, by repeat (first | with_reducible exact own_refl _ | with_reducible assumption | with_reducible apply own_alloc | with_reducible apply own_drewN | with_reducible apply own_drew | ((with_reducible refine own_setCell ?_ ?_ _); rotate_left; focus (first | (simp; done) | (simp; omega))) | (with_reducible (refine own_trans ?_ (by assumption))))⟩
end Go.Proofs.YthappdcoomgbpaaDoor
