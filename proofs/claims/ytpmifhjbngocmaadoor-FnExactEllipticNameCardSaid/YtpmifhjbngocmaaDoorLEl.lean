/- The walk of the law FnExactEllipticName. -/
import Derived.Test.YtpmifhjbngocmaaDoorLoEllipticName
import Derived.Test.YtpmifhjbngocmaaDoorSh
import Derived.Test.YtpmifhjbngocmaaDoorSB
namespace Go.Proofs.YtpmifhjbngocmaaDoor
open Go.ChangeShapes Go.WideShapes Go.ChangeAt Go.RowKit

theorem kind1 {a b c d : Int} (h : kind a b c d = 1) (hd : a * d - b * c = 1) : (c < 0 ∨ 0 < c) ∧ (a + d = -1 ∨ a + d = 0 ∨ a + d = 1) := by
  have h1 : (a + d).natAbs < 2 := by
    unfold kind at h
    by_cases h0 : b = 0 ∧ c = 0
    · rw [if_pos h0] at h; omega
    · rw [if_neg h0] at h
      by_cases h1 : (a + d).natAbs < 2
      · exact h1
      · rw [if_neg h1] at h
        by_cases h2 : (a + d).natAbs = 2
        · rw [if_pos h2] at h; omega
        · rw [if_neg h2] at h; omega
  refine ⟨?_, by omega⟩
  have hc : c ≠ 0 := by
    intro hc
    subst hc
    have hu : a * d = 1 := by simpa using hd
    have hn : a.natAbs * d.natAbs = 1 := by rw [← Int.natAbs_mul, hu]; rfl
    have h2 := Nat.eq_one_of_mul_eq_one_right hn
    have h3 := Nat.eq_one_of_mul_eq_one_left hn
    rcases (show a = 1 ∨ a = -1 by omega) with rfl | rfl <;> rcases (show d = 1 ∨ d = -1 by omega) with rfl | rfl <;> omega
  omega
set_option maxHeartbeats 1000000 in
theorem implName_nm (a b c d : Int) (ha : Ent a) (hb : Ent b) (hc : Ent c) (hd : Ent d) (hs : c < 0) (ht : a + d = -1) (w : World) :
    Calls Tryd.prog 32 #[(.agg #[.int .i64 a, .int .i64 b, .int .i64 c, .int .i64 d])] w fun e w' => e = .returned (.string ⟨#[45, 85]⟩) ∧ Below w.heap.size w w' := by
  have HE := Lib.hid (show Ent a ∧ Ent b ∧ Ent c ∧ Ent d from ⟨ha, hb, hc, hd⟩)
  have HT := Lib.hid ht
  clear ha hb hc hd ht
  go_enter Tryd.func32, Tryd.ntmps32
  go_wp2_with fail
  refine (implNeg_ent a b c d HE.out.1 HE.out.2.1 HE.out.2.2.1 HE.out.2.2.2 _).mono ?_
  rintro e w1 ⟨rfl, hb1⟩
  have BA1 := Box.below (Box.new _ _ _) hb1
  obtain ⟨_, _, _, _, _, _, _, _, _⟩ := BA1.four
  have BA2 := BA1.put4 (.int .i64 (-a)) (.int .i64 (-b)) (.int .i64 (-c)) (.int .i64 (-d))
  obtain ⟨_, _, _, _, _, _, _, _, _⟩ := BA2.four
  go_wp2_with fail
  refine (traceOf_ent (-a) (-b) (-c) (-d) (1) (by have := HT.out; omega) (by have := HE.out.1; unfold Ent at *; omega) (by have := HE.out.2.2.2; unfold Ent at *; omega) _).mono ?_
  rintro e w2 ⟨rfl, hb2⟩
  go_wp2
  go_ret
  exact ⟨rfl, by repeat (first | with_reducible exact own_refl _ | with_reducible assumption | with_reducible apply own_alloc | with_reducible apply own_drewN | with_reducible apply own_drew | ((with_reducible refine own_setCell ?_ ?_ _); rotate_left; focus (first | (simp; done) | (simp; omega))) | (with_reducible (refine own_trans ?_ (by assumption))))⟩
set_option maxHeartbeats 1000000 in
theorem specName_nm (a b c d : Int) (ha : Ent a) (hd : Ent d) (hs : c < 0) (ht : a + d = -1) (w : World) :
    Calls Tryd.prog 31 #[(.agg #[.int .i64 a, .int .i64 b, .int .i64 c, .int .i64 d])] w fun e w' => e = .returned (.string ⟨#[45, 85]⟩) ∧ Below w.heap.size w w' := by
  have HE := Lib.hid (show Ent a ∧ Ent d from ⟨ha, hd⟩)
  have HT := Lib.hid ht
  have hs' : ¬ 0 < c := by omega
  clear ha hd ht
  go_enter Tryd.func31, Tryd.ntmps31
  go_wp2_with fail
  refine (l01Trace_is a b c d (-1) HT.out HE.out.1 HE.out.2 _).mono ?_
  rintro e w1 ⟨rfl, hb1⟩
  have BN : Box w1 (w.heap.size + 1) [.string ⟨#[45, 85]⟩, .string ⟨#[45, 83]⟩, .string ⟨#[45, 86]⟩] := Box.below (Box.newAt (by simp) _ _) hb1
  have c0 := (BN.2 0 _ rfl).1
  go_wp2
  go_ret
  exact ⟨rfl, by repeat (first | with_reducible exact own_refl _ | with_reducible assumption | with_reducible apply own_alloc | with_reducible apply own_drewN | with_reducible apply own_drew | ((with_reducible refine own_setCell ?_ ?_ _); rotate_left; focus (first | (simp; done) | (simp; omega))) | (with_reducible (refine own_trans ?_ (by assumption))))⟩
set_option maxHeartbeats 1000000 in
theorem implName_nz (a b c d : Int) (ha : Ent a) (hb : Ent b) (hc : Ent c) (hd : Ent d) (hs : c < 0) (ht : a + d = 0) (w : World) :
    Calls Tryd.prog 32 #[(.agg #[.int .i64 a, .int .i64 b, .int .i64 c, .int .i64 d])] w fun e w' => e = .returned (.string ⟨#[45, 83]⟩) ∧ Below w.heap.size w w' := by
  have HE := Lib.hid (show Ent a ∧ Ent b ∧ Ent c ∧ Ent d from ⟨ha, hb, hc, hd⟩)
  have HT := Lib.hid ht
  clear ha hb hc hd ht
  go_enter Tryd.func32, Tryd.ntmps32
  go_wp2_with fail
  refine (implNeg_ent a b c d HE.out.1 HE.out.2.1 HE.out.2.2.1 HE.out.2.2.2 _).mono ?_
  rintro e w1 ⟨rfl, hb1⟩
  have BA1 := Box.below (Box.new _ _ _) hb1
  obtain ⟨_, _, _, _, _, _, _, _, _⟩ := BA1.four
  have BA2 := BA1.put4 (.int .i64 (-a)) (.int .i64 (-b)) (.int .i64 (-c)) (.int .i64 (-d))
  obtain ⟨_, _, _, _, _, _, _, _, _⟩ := BA2.four
  go_wp2_with fail
  refine (traceOf_ent (-a) (-b) (-c) (-d) (0) (by have := HT.out; omega) (by have := HE.out.1; unfold Ent at *; omega) (by have := HE.out.2.2.2; unfold Ent at *; omega) _).mono ?_
  rintro e w2 ⟨rfl, hb2⟩
  go_wp2
  go_ret
  exact ⟨rfl, by repeat (first | with_reducible exact own_refl _ | with_reducible assumption | with_reducible apply own_alloc | with_reducible apply own_drewN | with_reducible apply own_drew | ((with_reducible refine own_setCell ?_ ?_ _); rotate_left; focus (first | (simp; done) | (simp; omega))) | (with_reducible (refine own_trans ?_ (by assumption))))⟩
set_option maxHeartbeats 1000000 in
theorem specName_nz (a b c d : Int) (ha : Ent a) (hd : Ent d) (hs : c < 0) (ht : a + d = 0) (w : World) :
    Calls Tryd.prog 31 #[(.agg #[.int .i64 a, .int .i64 b, .int .i64 c, .int .i64 d])] w fun e w' => e = .returned (.string ⟨#[45, 83]⟩) ∧ Below w.heap.size w w' := by
  have HE := Lib.hid (show Ent a ∧ Ent d from ⟨ha, hd⟩)
  have HT := Lib.hid ht
  have hs' : ¬ 0 < c := by omega
  clear ha hd ht
  go_enter Tryd.func31, Tryd.ntmps31
  go_wp2_with fail
  refine (l01Trace_is a b c d (0) HT.out HE.out.1 HE.out.2 _).mono ?_
  rintro e w1 ⟨rfl, hb1⟩
  have BN : Box w1 (w.heap.size + 1) [.string ⟨#[45, 85]⟩, .string ⟨#[45, 83]⟩, .string ⟨#[45, 86]⟩] := Box.below (Box.newAt (by simp) _ _) hb1
  have c0 := (BN.2 1 _ rfl).1
  go_wp2
  go_ret
  exact ⟨rfl, by repeat (first | with_reducible exact own_refl _ | with_reducible assumption | with_reducible apply own_alloc | with_reducible apply own_drewN | with_reducible apply own_drew | ((with_reducible refine own_setCell ?_ ?_ _); rotate_left; focus (first | (simp; done) | (simp; omega))) | (with_reducible (refine own_trans ?_ (by assumption))))⟩
set_option maxHeartbeats 1000000 in
theorem implName_no (a b c d : Int) (ha : Ent a) (hb : Ent b) (hc : Ent c) (hd : Ent d) (hs : c < 0) (ht : a + d = 1) (w : World) :
    Calls Tryd.prog 32 #[(.agg #[.int .i64 a, .int .i64 b, .int .i64 c, .int .i64 d])] w fun e w' => e = .returned (.string ⟨#[45, 86]⟩) ∧ Below w.heap.size w w' := by
  have HE := Lib.hid (show Ent a ∧ Ent b ∧ Ent c ∧ Ent d from ⟨ha, hb, hc, hd⟩)
  have HT := Lib.hid ht
  clear ha hb hc hd ht
  go_enter Tryd.func32, Tryd.ntmps32
  go_wp2_with fail
  refine (implNeg_ent a b c d HE.out.1 HE.out.2.1 HE.out.2.2.1 HE.out.2.2.2 _).mono ?_
  rintro e w1 ⟨rfl, hb1⟩
  have BA1 := Box.below (Box.new _ _ _) hb1
  obtain ⟨_, _, _, _, _, _, _, _, _⟩ := BA1.four
  have BA2 := BA1.put4 (.int .i64 (-a)) (.int .i64 (-b)) (.int .i64 (-c)) (.int .i64 (-d))
  obtain ⟨_, _, _, _, _, _, _, _, _⟩ := BA2.four
  go_wp2_with fail
  refine (traceOf_ent (-a) (-b) (-c) (-d) (-1) (by have := HT.out; omega) (by have := HE.out.1; unfold Ent at *; omega) (by have := HE.out.2.2.2; unfold Ent at *; omega) _).mono ?_
  rintro e w2 ⟨rfl, hb2⟩
  go_wp2
  go_ret
  exact ⟨rfl, by repeat (first | with_reducible exact own_refl _ | with_reducible assumption | with_reducible apply own_alloc | with_reducible apply own_drewN | with_reducible apply own_drew | ((with_reducible refine own_setCell ?_ ?_ _); rotate_left; focus (first | (simp; done) | (simp; omega))) | (with_reducible (refine own_trans ?_ (by assumption))))⟩
set_option maxHeartbeats 1000000 in
theorem specName_no (a b c d : Int) (ha : Ent a) (hd : Ent d) (hs : c < 0) (ht : a + d = 1) (w : World) :
    Calls Tryd.prog 31 #[(.agg #[.int .i64 a, .int .i64 b, .int .i64 c, .int .i64 d])] w fun e w' => e = .returned (.string ⟨#[45, 86]⟩) ∧ Below w.heap.size w w' := by
  have HE := Lib.hid (show Ent a ∧ Ent d from ⟨ha, hd⟩)
  have HT := Lib.hid ht
  have hs' : ¬ 0 < c := by omega
  clear ha hd ht
  go_enter Tryd.func31, Tryd.ntmps31
  go_wp2_with fail
  refine (l01Trace_is a b c d (1) HT.out HE.out.1 HE.out.2 _).mono ?_
  rintro e w1 ⟨rfl, hb1⟩
  have BN : Box w1 (w.heap.size + 1) [.string ⟨#[45, 85]⟩, .string ⟨#[45, 83]⟩, .string ⟨#[45, 86]⟩] := Box.below (Box.newAt (by simp) _ _) hb1
  have c0 := (BN.2 2 _ rfl).1
  go_wp2
  go_ret
  exact ⟨rfl, by repeat (first | with_reducible exact own_refl _ | with_reducible assumption | with_reducible apply own_alloc | with_reducible apply own_drewN | with_reducible apply own_drew | ((with_reducible refine own_setCell ?_ ?_ _); rotate_left; focus (first | (simp; done) | (simp; omega))) | (with_reducible (refine own_trans ?_ (by assumption))))⟩
set_option maxHeartbeats 1000000 in
theorem implName_pm (a b c d : Int) (ha : Ent a) (hb : Ent b) (hc : Ent c) (hd : Ent d) (hs : 0 < c) (ht : a + d = -1) (w : World) :
    Calls Tryd.prog 32 #[(.agg #[.int .i64 a, .int .i64 b, .int .i64 c, .int .i64 d])] w fun e w' => e = .returned (.string ⟨#[86]⟩) ∧ Below w.heap.size w w' := by
  have HE := Lib.hid (show Ent a ∧ Ent b ∧ Ent c ∧ Ent d from ⟨ha, hb, hc, hd⟩)
  have HT := Lib.hid ht
  have hs' : ¬ c < 0 := by omega
  clear ha hb hc hd ht
  go_enter Tryd.func32, Tryd.ntmps32
  go_wp2_with fail
  refine (traceOf_ent a b c d (-1) HT.out HE.out.1 HE.out.2.2.2 _).mono ?_
  rintro e w2 ⟨rfl, hb2⟩
  go_wp2
  go_ret
  exact ⟨rfl, by repeat (first | with_reducible exact own_refl _ | with_reducible assumption | with_reducible apply own_alloc | with_reducible apply own_drewN | with_reducible apply own_drew | ((with_reducible refine own_setCell ?_ ?_ _); rotate_left; focus (first | (simp; done) | (simp; omega))) | (with_reducible (refine own_trans ?_ (by assumption))))⟩
set_option maxHeartbeats 1000000 in
theorem specName_pm (a b c d : Int) (ha : Ent a) (hd : Ent d) (hs : 0 < c) (ht : a + d = -1) (w : World) :
    Calls Tryd.prog 31 #[(.agg #[.int .i64 a, .int .i64 b, .int .i64 c, .int .i64 d])] w fun e w' => e = .returned (.string ⟨#[86]⟩) ∧ Below w.heap.size w w' := by
  have HE := Lib.hid (show Ent a ∧ Ent d from ⟨ha, hd⟩)
  have HT := Lib.hid ht
  clear ha hd ht
  go_enter Tryd.func31, Tryd.ntmps31
  go_wp2_with fail
  refine (l01Trace_is a b c d (-1) HT.out HE.out.1 HE.out.2 _).mono ?_
  rintro e w1 ⟨rfl, hb1⟩
  have BN : Box w1 (w.heap.size + 1 + 1) [.string ⟨#[86]⟩, .string ⟨#[83]⟩, .string ⟨#[85]⟩] := Box.below (Box.newAt (by simp) _ _) hb1
  have c0 := (BN.2 0 _ rfl).1
  go_wp2
  go_ret
  exact ⟨rfl, by repeat (first | with_reducible exact own_refl _ | with_reducible assumption | with_reducible apply own_alloc | with_reducible apply own_drewN | with_reducible apply own_drew | ((with_reducible refine own_setCell ?_ ?_ _); rotate_left; focus (first | (simp; done) | (simp; omega))) | (with_reducible (refine own_trans ?_ (by assumption))))⟩
set_option maxHeartbeats 1000000 in
theorem implName_pz (a b c d : Int) (ha : Ent a) (hb : Ent b) (hc : Ent c) (hd : Ent d) (hs : 0 < c) (ht : a + d = 0) (w : World) :
    Calls Tryd.prog 32 #[(.agg #[.int .i64 a, .int .i64 b, .int .i64 c, .int .i64 d])] w fun e w' => e = .returned (.string ⟨#[83]⟩) ∧ Below w.heap.size w w' := by
  have HE := Lib.hid (show Ent a ∧ Ent b ∧ Ent c ∧ Ent d from ⟨ha, hb, hc, hd⟩)
  have HT := Lib.hid ht
  have hs' : ¬ c < 0 := by omega
  clear ha hb hc hd ht
  go_enter Tryd.func32, Tryd.ntmps32
  go_wp2_with fail
  refine (traceOf_ent a b c d (0) HT.out HE.out.1 HE.out.2.2.2 _).mono ?_
  rintro e w2 ⟨rfl, hb2⟩
  go_wp2
  go_ret
  exact ⟨rfl, by repeat (first | with_reducible exact own_refl _ | with_reducible assumption | with_reducible apply own_alloc | with_reducible apply own_drewN | with_reducible apply own_drew | ((with_reducible refine own_setCell ?_ ?_ _); rotate_left; focus (first | (simp; done) | (simp; omega))) | (with_reducible (refine own_trans ?_ (by assumption))))⟩
set_option maxHeartbeats 1000000 in
theorem specName_pz (a b c d : Int) (ha : Ent a) (hd : Ent d) (hs : 0 < c) (ht : a + d = 0) (w : World) :
    Calls Tryd.prog 31 #[(.agg #[.int .i64 a, .int .i64 b, .int .i64 c, .int .i64 d])] w fun e w' => e = .returned (.string ⟨#[83]⟩) ∧ Below w.heap.size w w' := by
  have HE := Lib.hid (show Ent a ∧ Ent d from ⟨ha, hd⟩)
  have HT := Lib.hid ht
  clear ha hd ht
  go_enter Tryd.func31, Tryd.ntmps31
  go_wp2_with fail
  refine (l01Trace_is a b c d (0) HT.out HE.out.1 HE.out.2 _).mono ?_
  rintro e w1 ⟨rfl, hb1⟩
  have BN : Box w1 (w.heap.size + 1 + 1) [.string ⟨#[86]⟩, .string ⟨#[83]⟩, .string ⟨#[85]⟩] := Box.below (Box.newAt (by simp) _ _) hb1
  have c0 := (BN.2 1 _ rfl).1
  go_wp2
  go_ret
  exact ⟨rfl, by repeat (first | with_reducible exact own_refl _ | with_reducible assumption | with_reducible apply own_alloc | with_reducible apply own_drewN | with_reducible apply own_drew | ((with_reducible refine own_setCell ?_ ?_ _); rotate_left; focus (first | (simp; done) | (simp; omega))) | (with_reducible (refine own_trans ?_ (by assumption))))⟩
set_option maxHeartbeats 1000000 in
theorem implName_po (a b c d : Int) (ha : Ent a) (hb : Ent b) (hc : Ent c) (hd : Ent d) (hs : 0 < c) (ht : a + d = 1) (w : World) :
    Calls Tryd.prog 32 #[(.agg #[.int .i64 a, .int .i64 b, .int .i64 c, .int .i64 d])] w fun e w' => e = .returned (.string ⟨#[85]⟩) ∧ Below w.heap.size w w' := by
  have HE := Lib.hid (show Ent a ∧ Ent b ∧ Ent c ∧ Ent d from ⟨ha, hb, hc, hd⟩)
  have HT := Lib.hid ht
  have hs' : ¬ c < 0 := by omega
  clear ha hb hc hd ht
  go_enter Tryd.func32, Tryd.ntmps32
  go_wp2_with fail
  refine (traceOf_ent a b c d (1) HT.out HE.out.1 HE.out.2.2.2 _).mono ?_
  rintro e w2 ⟨rfl, hb2⟩
  go_wp2
  go_ret
  exact ⟨rfl, by repeat (first | with_reducible exact own_refl _ | with_reducible assumption | with_reducible apply own_alloc | with_reducible apply own_drewN | with_reducible apply own_drew | ((with_reducible refine own_setCell ?_ ?_ _); rotate_left; focus (first | (simp; done) | (simp; omega))) | (with_reducible (refine own_trans ?_ (by assumption))))⟩
set_option maxHeartbeats 1000000 in
theorem specName_po (a b c d : Int) (ha : Ent a) (hd : Ent d) (hs : 0 < c) (ht : a + d = 1) (w : World) :
    Calls Tryd.prog 31 #[(.agg #[.int .i64 a, .int .i64 b, .int .i64 c, .int .i64 d])] w fun e w' => e = .returned (.string ⟨#[85]⟩) ∧ Below w.heap.size w w' := by
  have HE := Lib.hid (show Ent a ∧ Ent d from ⟨ha, hd⟩)
  have HT := Lib.hid ht
  clear ha hd ht
  go_enter Tryd.func31, Tryd.ntmps31
  go_wp2_with fail
  refine (l01Trace_is a b c d (1) HT.out HE.out.1 HE.out.2 _).mono ?_
  rintro e w1 ⟨rfl, hb1⟩
  have BN : Box w1 (w.heap.size + 1 + 1) [.string ⟨#[86]⟩, .string ⟨#[83]⟩, .string ⟨#[85]⟩] := Box.below (Box.newAt (by simp) _ _) hb1
  have c0 := (BN.2 2 _ rfl).1
  go_wp2
  go_ret
  exact ⟨rfl, by repeat (first | with_reducible exact own_refl _ | with_reducible assumption | with_reducible apply own_alloc | with_reducible apply own_drewN | with_reducible apply own_drew | ((with_reducible refine own_setCell ?_ ?_ _); rotate_left; focus (first | (simp; done) | (simp; omega))) | (with_reducible (refine own_trans ?_ (by assumption))))⟩
set_option maxHeartbeats 1000000 in
theorem implEN_no (a b c d : Int) (h : isM a b c d = false) (w : World) :
    Calls Tryd.prog 13 #[(.agg #[.int .i64 a, .int .i64 b, .int .i64 c, .int .i64 d])] w fun e w' => e = .returned (.tuple #[.string ByteArray.empty, (.int .i64 1)]) ∧ Below w.heap.size w w' := by
  have H := Lib.hid h
  clear h
  go_enter Tryd.func13, Tryd.ntmps13
  go_wp2_with fail
  refine (check_no a b c d 1 H.out _).mono ?_
  rintro e w1 ⟨rfl, hb1⟩
  go_wp2
  go_ret2
  exact ⟨rfl, by repeat (first | with_reducible exact own_refl _ | with_reducible assumption | with_reducible apply own_alloc | with_reducible apply own_drewN | with_reducible apply own_drew | ((with_reducible refine own_setCell ?_ ?_ _); rotate_left; focus (first | (simp; done) | (simp; omega))) | (with_reducible (refine own_trans ?_ (by assumption))))⟩
set_option maxHeartbeats 1000000 in
theorem implEN_bad (a b c d k : Int) (h : isM a b c d = true) (hk : kind a b c d = k) (hn : (k != 1) = true) (w : World) (hid : Idn w) :
    Calls Tryd.prog 13 #[(.agg #[.int .i64 a, .int .i64 b, .int .i64 c, .int .i64 d])] w fun e w' => e = .returned (.tuple #[.string ByteArray.empty, (.int .i64 5)]) ∧ Below w.heap.size w w' := by
  have H := Lib.hid h
  have HK := Lib.hid hk
  have HN := Lib.hid hn
  clear h hk hn
  go_enter Tryd.func13, Tryd.ntmps13
  go_wp2_with fail
  refine (check_is true k 1 a b c d H.out HK.out HN.out _ (hid.alloc _)).mono ?_
  rintro e w1 ⟨rfl, hb1⟩
  go_wp2
  go_ret2
  exact ⟨rfl, by repeat (first | with_reducible exact own_refl _ | with_reducible assumption | with_reducible apply own_alloc | with_reducible apply own_drewN | with_reducible apply own_drew | ((with_reducible refine own_setCell ?_ ?_ _); rotate_left; focus (first | (simp; done) | (simp; omega))) | (with_reducible (refine own_trans ?_ (by assumption))))⟩
set_option maxHeartbeats 1000000 in
theorem implEN_ok (a b c d : Int) (s : ByteArray) (h : isM a b c d = true) (hk : kind a b c d = 1) (hs : ∀ w : World, Calls Tryd.prog 32 #[(.agg #[.int .i64 a, .int .i64 b, .int .i64 c, .int .i64 d])] w fun e w' => e = .returned (.string s) ∧ Below w.heap.size w w') (w : World) (hid : Idn w) :
    Calls Tryd.prog 13 #[(.agg #[.int .i64 a, .int .i64 b, .int .i64 c, .int .i64 d])] w fun e w' => e = .returned (.tuple #[.string s, (.int .i64 0)]) ∧ Below w.heap.size w w' := by
  have H := Lib.hid h
  have HK := Lib.hid hk
  have HS := Lib.hid hs
  clear h hk hs
  go_enter Tryd.func13, Tryd.ntmps13
  go_wp2_with fail
  refine (check_is false 1 1 a b c d H.out HK.out rfl _ (hid.alloc _)).mono ?_
  rintro e w1 ⟨rfl, hb1⟩
  have BA : Box w1 w.heap.size [.int .i64 a, .int .i64 b, .int .i64 c, .int .i64 d] := Box.below (Box.new _ _ _) hb1
  obtain ⟨_, _, _, _, _, _, _, _, _⟩ := BA.four
  go_wp2_with fail
  refine (HS.out _).mono ?_
  rintro e w2 ⟨rfl, hb2⟩
  go_wp2
  go_ret2
  exact ⟨rfl, by repeat (first | with_reducible exact own_refl _ | with_reducible assumption | with_reducible apply own_alloc | with_reducible apply own_drewN | with_reducible apply own_drew | ((with_reducible refine own_setCell ?_ ?_ _); rotate_left; focus (first | (simp; done) | (simp; omega))) | (with_reducible (refine own_trans ?_ (by assumption))))⟩
set_option maxHeartbeats 1000000 in
theorem specEN_no (a b c d : Int) (h : isM a b c d = false) (w : World) :
    Calls Tryd.prog 12 #[(.agg #[.int .i64 a, .int .i64 b, .int .i64 c, .int .i64 d])] w fun e w' => e = .returned (.tuple #[.string ByteArray.empty, (.int .i64 1)]) ∧ Below w.heap.size w w' := by
  have H := Lib.hid h
  clear h
  go_enter Tryd.func12, Tryd.ntmps12
  go_wp2_with fail
  refine (l04Kind_no a b c d 1 H.out _).mono ?_
  rintro e w1 ⟨rfl, hb1⟩
  go_wp2
  go_ret2
  exact ⟨rfl, by repeat (first | with_reducible exact own_refl _ | with_reducible assumption | with_reducible apply own_alloc | with_reducible apply own_drewN | with_reducible apply own_drew | ((with_reducible refine own_setCell ?_ ?_ _); rotate_left; focus (first | (simp; done) | (simp; omega))) | (with_reducible (refine own_trans ?_ (by assumption))))⟩
set_option maxHeartbeats 1000000 in
theorem specEN_bad (a b c d k : Int) (h : isM a b c d = true) (hk : kind a b c d = k) (hn : (k != 1) = true) (w : World) :
    Calls Tryd.prog 12 #[(.agg #[.int .i64 a, .int .i64 b, .int .i64 c, .int .i64 d])] w fun e w' => e = .returned (.tuple #[.string ByteArray.empty, (.int .i64 5)]) ∧ Below w.heap.size w w' := by
  have H := Lib.hid h
  have HK := Lib.hid hk
  have HN := Lib.hid hn
  clear h hk hn
  go_enter Tryd.func12, Tryd.ntmps12
  go_wp2_with fail
  refine (l04Kind_is true k 1 a b c d H.out HK.out HN.out _).mono ?_
  rintro e w1 ⟨rfl, hb1⟩
  go_wp2
  go_ret2
  exact ⟨rfl, by repeat (first | with_reducible exact own_refl _ | with_reducible assumption | with_reducible apply own_alloc | with_reducible apply own_drewN | with_reducible apply own_drew | ((with_reducible refine own_setCell ?_ ?_ _); rotate_left; focus (first | (simp; done) | (simp; omega))) | (with_reducible (refine own_trans ?_ (by assumption))))⟩
set_option maxHeartbeats 1000000 in
theorem specEN_ok (a b c d : Int) (s : ByteArray) (h : isM a b c d = true) (hk : kind a b c d = 1) (hs : ∀ w : World, Calls Tryd.prog 31 #[(.agg #[.int .i64 a, .int .i64 b, .int .i64 c, .int .i64 d])] w fun e w' => e = .returned (.string s) ∧ Below w.heap.size w w') (w : World) :
    Calls Tryd.prog 12 #[(.agg #[.int .i64 a, .int .i64 b, .int .i64 c, .int .i64 d])] w fun e w' => e = .returned (.tuple #[.string s, (.int .i64 0)]) ∧ Below w.heap.size w w' := by
  have H := Lib.hid h
  have HK := Lib.hid hk
  have HS := Lib.hid hs
  clear h hk hs
  go_enter Tryd.func12, Tryd.ntmps12
  go_wp2_with fail
  refine (l04Kind_is false 1 1 a b c d H.out HK.out rfl _).mono ?_
  rintro e w1 ⟨rfl, hb1⟩
  have BA : Box w1 w.heap.size [.int .i64 a, .int .i64 b, .int .i64 c, .int .i64 d] := Box.below (Box.new _ _ _) hb1
  obtain ⟨_, _, _, _, _, _, _, _, _⟩ := BA.four
  go_wp2_with fail
  refine (HS.out _).mono ?_
  rintro e w2 ⟨rfl, hb2⟩
  go_wp2
  go_ret2
  exact ⟨rfl, by repeat (first | with_reducible exact own_refl _ | with_reducible assumption | with_reducible apply own_alloc | with_reducible apply own_drewN | with_reducible apply own_drew | ((with_reducible refine own_setCell ?_ ?_ _); rotate_left; focus (first | (simp; done) | (simp; omega))) | (with_reducible (refine own_trans ?_ (by assumption))))⟩
theorem lawEllipticName_walk (a b c d : Int) (_ : I64 a) (_ : I64 b) (_ : I64 c) (_ : I64 d) (w : World) (hid : Idn w) :
    Calls Tryd.prog 4 #[(.agg #[.int .i64 a, .int .i64 b, .int .i64 c, .int .i64 d])] w fun e w' => e = .returned (.bool true) ∧ Below w.heap.size w w' := by
  rcases h : isM a b c d with _ | _
  · exact lawEllipticName_of a b c d ByteArray.empty 1 (fun w => specEN_no a b c d h w) (fun w _ => implEN_no a b c d h w) w hid
  obtain ⟨ha, hb, hc, hd, hdet⟩ := isM_ent h
  by_cases hk : kind a b c d = 1
  · obtain ⟨hs | hs, ht | ht | ht⟩ := kind1 hk hdet
    · exact lawEllipticName_of a b c d ⟨#[45, 85]⟩ 0 (fun w => specEN_ok a b c d _ h hk (fun w => specName_nm a b c d ha hd hs ht w) w) (fun w hi => implEN_ok a b c d _ h hk (fun w => implName_nm a b c d ha hb hc hd hs ht w) w hi) w hid
    · exact lawEllipticName_of a b c d ⟨#[45, 83]⟩ 0 (fun w => specEN_ok a b c d _ h hk (fun w => specName_nz a b c d ha hd hs ht w) w) (fun w hi => implEN_ok a b c d _ h hk (fun w => implName_nz a b c d ha hb hc hd hs ht w) w hi) w hid
    · exact lawEllipticName_of a b c d ⟨#[45, 86]⟩ 0 (fun w => specEN_ok a b c d _ h hk (fun w => specName_no a b c d ha hd hs ht w) w) (fun w hi => implEN_ok a b c d _ h hk (fun w => implName_no a b c d ha hb hc hd hs ht w) w hi) w hid
    · exact lawEllipticName_of a b c d ⟨#[86]⟩ 0 (fun w => specEN_ok a b c d _ h hk (fun w => specName_pm a b c d ha hd hs ht w) w) (fun w hi => implEN_ok a b c d _ h hk (fun w => implName_pm a b c d ha hb hc hd hs ht w) w hi) w hid
    · exact lawEllipticName_of a b c d ⟨#[83]⟩ 0 (fun w => specEN_ok a b c d _ h hk (fun w => specName_pz a b c d ha hd hs ht w) w) (fun w hi => implEN_ok a b c d _ h hk (fun w => implName_pz a b c d ha hb hc hd hs ht w) w hi) w hid
    · exact lawEllipticName_of a b c d ⟨#[85]⟩ 0 (fun w => specEN_ok a b c d _ h hk (fun w => specName_po a b c d ha hd hs ht w) w) (fun w hi => implEN_ok a b c d _ h hk (fun w => implName_po a b c d ha hb hc hd hs ht w) w hi) w hid
  · have hn : (kind a b c d != 1) = true := by simpa using hk
    exact lawEllipticName_of a b c d ByteArray.empty 5 (fun w => specEN_bad a b c d _ h rfl hn w) (fun w hi => implEN_bad a b c d _ h rfl hn w hi) w hid
end Go.Proofs.YtpmifhjbngocmaaDoor
