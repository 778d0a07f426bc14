/- ProductGap: the model's side, and the walk of its law. -/
import Derived.Test.YtajfjfgpiggekaaDoorGap
import Derived.Test.YtajfjfgpiggekaaDoorLoProductGap
namespace Go.Proofs.YtajfjfgpiggekaaDoor
open Go.ChangeShapes Go.WideShapes Go.ChangeAt Go.RowKit

theorem specGap_no1 (m n : Mat) (h : m.is = false) (w : World) :
    Calls Tryd.prog 5 #[(.agg #[.int .i64 m.a, .int .i64 m.b, .int .i64 m.c, .int .i64 m.d]), (.agg #[.int .i64 n.a, .int .i64 n.b, .int .i64 n.c, .int .i64 n.d])] w fun e w' => e = .returned (.tuple #[(.int .i64 0), (.int .i64 1)]) ∧ Below w.heap.size w w' := by
  have H := Lib.hid h
  clear h
  go_enter Tryd.func5, Tryd.ntmps5
  go_wp2_with fail
  refine (l01Is_m false m H.out _).mono ?_
  rintro e w1 ⟨rfl, hb1⟩
  go_wp2
  go_ret2
  exact ⟨rfl, by repeat (first | with_reducible exact own_refl _ | with_reducible assumption | with_reducible apply own_alloc | with_reducible apply own_drewN | with_reducible apply own_drew | ((with_reducible refine own_setCell ?_ ?_ _); rotate_left; focus (first | (simp; done) | (simp; omega))) | (with_reducible (refine own_trans ?_ (by assumption))))⟩
theorem specGap_no2 (m n : Mat) (hm : m.is = true) (h : n.is = false) (w : World) :
    Calls Tryd.prog 5 #[(.agg #[.int .i64 m.a, .int .i64 m.b, .int .i64 m.c, .int .i64 m.d]), (.agg #[.int .i64 n.a, .int .i64 n.b, .int .i64 n.c, .int .i64 n.d])] w fun e w' => e = .returned (.tuple #[(.int .i64 0), (.int .i64 1)]) ∧ Below w.heap.size w w' := by
  have H := Lib.hid h
  have HM := Lib.hid hm
  clear h hm
  go_enter Tryd.func5, Tryd.ntmps5
  go_wp2_with fail
  refine (l01Is_m true m HM.out _).mono ?_
  rintro e w1 ⟨rfl, hb1⟩
  have BN : Box w1 (w.heap.size + 1) [.int .i64 n.a, .int .i64 n.b, .int .i64 n.c, .int .i64 n.d] := Box.below (Box.newAt (by simp) _ _) hb1
  obtain ⟨_, _, _, _, _, _, _, _, _⟩ := BN.four
  go_wp2_with fail
  refine (l01Is_m false n H.out _).mono ?_
  rintro e w2 ⟨rfl, hb2⟩
  go_wp2
  go_ret2
  exact ⟨rfl, by repeat (first | with_reducible exact own_refl _ | with_reducible assumption | with_reducible apply own_alloc | with_reducible apply own_drewN | with_reducible apply own_drew | ((with_reducible refine own_setCell ?_ ?_ _); rotate_left; focus (first | (simp; done) | (simp; omega))) | (with_reducible (refine own_trans ?_ (by assumption))))⟩
set_option maxRecDepth 100000 in
set_option maxHeartbeats 4000000 in
theorem specGap_lim (m n r : Mat) (ht : TM m n r false) (hm : m.is = true) (hn : n.is = true) (w : World) :
    Calls Tryd.prog 5 #[(.agg #[.int .i64 m.a, .int .i64 m.b, .int .i64 m.c, .int .i64 m.d]), (.agg #[.int .i64 n.a, .int .i64 n.b, .int .i64 n.c, .int .i64 n.d])] w fun e w' => e = .returned (.tuple #[(.int .i64 0), (.int .i64 3)]) ∧ Below w.heap.size w w' := by
  have HIM := Lib.hid hm
  have HIN := Lib.hid hn
  obtain ⟨ma, mb, mc, md, _⟩ := Mat.is_ent hm
  obtain ⟨na, nb, nc, nd, _⟩ := Mat.is_ent hn
  have HT := Lib.hid (fun w => times_is m n r false ma mb mc md na nb nc nd ht w)
  clear hm hn ht ma mb mc md na nb nc nd
  go_enter Tryd.func5, Tryd.ntmps5
  go_wp2_with fail
  refine (l01Is_m true m HIM.out _).mono ?_
  rintro e w1 ⟨rfl, hb1⟩
  have BM : Box w1 w.heap.size [.int .i64 m.a, .int .i64 m.b, .int .i64 m.c, .int .i64 m.d] := Box.below ((Box.new _ _ _).alloc _) hb1
  have BN : Box w1 (w.heap.size + 1) [.int .i64 n.a, .int .i64 n.b, .int .i64 n.c, .int .i64 n.d] := Box.below (Box.newAt (by simp) _ _) hb1
  have T : Below w.heap.size w w1 := by repeat (first | with_reducible exact own_refl _ | with_reducible assumption | with_reducible apply own_alloc | with_reducible apply own_drewN | with_reducible apply own_drew | ((with_reducible refine own_setCell ?_ ?_ _); rotate_left; focus (first | (simp; done) | (simp; omega))) | (with_reducible (refine own_trans ?_ (by assumption))))
  clear hb1
  obtain ⟨_, _, _, _, _, _, _, _, _⟩ := BN.four
  go_wp2_with fail
  refine (l01Is_m true n HIN.out _).mono ?_
  rintro e w2 ⟨rfl, hb2⟩
  have T := own_trans T hb2
  have BM := BM.below hb2
  have BN := BN.below hb2
  clear hb2
  obtain ⟨_, _, _, _, _, _, _, _, _⟩ := BM.four
  obtain ⟨_, _, _, _, _, _, _, _, _⟩ := BN.four
  go_wp2_with fail
  refine (HT.out _).mono ?_
  rintro e w3 ⟨rfl, hb3⟩
  have T := own_trans T hb3
  have BM := BM.below hb3
  have BN := BN.below hb3
  clear hb3
  go_wp2
  go_ret2
  exact ⟨rfl, by repeat (first | with_reducible exact own_refl _ | with_reducible assumption | with_reducible apply own_alloc | with_reducible apply own_drewN | with_reducible apply own_drew | ((with_reducible refine own_setCell ?_ ?_ _); rotate_left; focus (first | (simp; done) | (simp; omega))) | (with_reducible (refine own_trans ?_ (by assumption))))⟩
set_option maxRecDepth 100000 in
set_option maxHeartbeats 4000000 in
theorem specGap_m (m n r : Mat) (ht : TM m n r true) (hm : m.is = true) (hn : n.is = true) (c1 : ¬ (m.c.natAbs : Int) ≤ 20000) (w : World) :
    Calls Tryd.prog 5 #[(.agg #[.int .i64 m.a, .int .i64 m.b, .int .i64 m.c, .int .i64 m.d]), (.agg #[.int .i64 n.a, .int .i64 n.b, .int .i64 n.c, .int .i64 n.d])] w fun e w' => e = .returned (.tuple #[(.int .i64 0), (.int .i64 3)]) ∧ Below w.heap.size w w' := by
  have HIM := Lib.hid hm
  have HIN := Lib.hid hn
  obtain ⟨ma, mb, mc, md, _⟩ := Mat.is_ent hm
  obtain ⟨na, nb, nc, nd, _⟩ := Mat.is_ent hn
  have HT := Lib.hid (fun w => times_is m n r true ma mb mc md na nb nc nd ht w)
  have HGm := Lib.hid (fun w => l07Given_big m.a m.b m.c m.d hm c1 w)
  clear hm hn ht ma mb mc md na nb nc nd
  go_enter Tryd.func5, Tryd.ntmps5
  go_wp2_with fail
  refine (l01Is_m true m HIM.out _).mono ?_
  rintro e w1 ⟨rfl, hb1⟩
  have BM : Box w1 w.heap.size [.int .i64 m.a, .int .i64 m.b, .int .i64 m.c, .int .i64 m.d] := Box.below ((Box.new _ _ _).alloc _) hb1
  have BN : Box w1 (w.heap.size + 1) [.int .i64 n.a, .int .i64 n.b, .int .i64 n.c, .int .i64 n.d] := Box.below (Box.newAt (by simp) _ _) hb1
  have T : Below w.heap.size w w1 := by repeat (first | with_reducible exact own_refl _ | with_reducible assumption | with_reducible apply own_alloc | with_reducible apply own_drewN | with_reducible apply own_drew | ((with_reducible refine own_setCell ?_ ?_ _); rotate_left; focus (first | (simp; done) | (simp; omega))) | (with_reducible (refine own_trans ?_ (by assumption))))
  clear hb1
  obtain ⟨_, _, _, _, _, _, _, _, _⟩ := BN.four
  go_wp2_with fail
  refine (l01Is_m true n HIN.out _).mono ?_
  rintro e w2 ⟨rfl, hb2⟩
  have T := own_trans T hb2
  have BM := BM.below hb2
  have BN := BN.below hb2
  clear hb2
  obtain ⟨_, _, _, _, _, _, _, _, _⟩ := BM.four
  obtain ⟨_, _, _, _, _, _, _, _, _⟩ := BN.four
  go_wp2_with fail
  refine (HT.out _).mono ?_
  rintro e w3 ⟨rfl, hb3⟩
  have T := own_trans T hb3
  have BM := BM.below hb3
  have BN := BN.below hb3
  clear hb3
  have BM := BM.alloc (.cells #[.int .i64 r.a, .int .i64 r.b, .int .i64 r.c, .int .i64 r.d] 25)
  have BN := BN.alloc (.cells #[.int .i64 r.a, .int .i64 r.b, .int .i64 r.c, .int .i64 r.d] 25)
  have BR : Box (w3.alloc (.cells #[.int .i64 r.a, .int .i64 r.b, .int .i64 r.c, .int .i64 r.d] 25)) w3.heap.size [.int .i64 r.a, .int .i64 r.b, .int .i64 r.c, .int .i64 r.d] := Box.new _ _ _
  have T := own_alloc T (.cells #[.int .i64 r.a, .int .i64 r.b, .int .i64 r.c, .int .i64 r.d] 25)
  obtain ⟨_, _, _, _, _, _, _, _, _⟩ := BM.four
  go_wp2_with fail
  refine (HGm.out _).mono ?_
  rintro e w4 ⟨rfl, hb4⟩
  have T := own_trans T hb4
  have BM := BM.below hb4
  have BN := BN.below hb4
  have BR := BR.below hb4
  clear hb4
  obtain ⟨_, _, _, _, _, _, _, _, _⟩ := BM.four
  obtain ⟨_, _, _, _, _, _, _, _, _⟩ := BN.four
  obtain ⟨_, _, _, _, _, _, _, _, _⟩ := BR.four
  go_wp2
  go_ret2
  exact ⟨rfl, by repeat (first | with_reducible exact own_refl _ | with_reducible assumption | with_reducible apply own_alloc | with_reducible apply own_drewN | with_reducible apply own_drew | ((with_reducible refine own_setCell ?_ ?_ _); rotate_left; focus (first | (simp; done) | (simp; omega))) | (with_reducible (refine own_trans ?_ (by assumption))))⟩
set_option maxRecDepth 100000 in
set_option maxHeartbeats 4000000 in
theorem specGap_n (m n r : Mat) (ht : TM m n r true) (hm : m.is = true) (hn : n.is = true) (c1 : (m.c.natAbs : Int) ≤ 20000) (c2 : ¬ (n.c.natAbs : Int) ≤ 20000) (w : World) :
    Calls Tryd.prog 5 #[(.agg #[.int .i64 m.a, .int .i64 m.b, .int .i64 m.c, .int .i64 m.d]), (.agg #[.int .i64 n.a, .int .i64 n.b, .int .i64 n.c, .int .i64 n.d])] w fun e w' => e = .returned (.tuple #[(.int .i64 0), (.int .i64 3)]) ∧ Below w.heap.size w w' := by
  have HIM := Lib.hid hm
  have HIN := Lib.hid hn
  obtain ⟨ma, mb, mc, md, _⟩ := Mat.is_ent hm
  obtain ⟨na, nb, nc, nd, _⟩ := Mat.is_ent hn
  have HT := Lib.hid (fun w => times_is m n r true ma mb mc md na nb nc nd ht w)
  have HGm := Lib.hid (fun w => l07Given_ok m.a m.b m.c m.d hm c1 w)
  have HGn := Lib.hid (fun w => l07Given_big n.a n.b n.c n.d hn c2 w)
  clear hm hn ht ma mb mc md na nb nc nd
  go_enter Tryd.func5, Tryd.ntmps5
  go_wp2_with fail
  refine (l01Is_m true m HIM.out _).mono ?_
  rintro e w1 ⟨rfl, hb1⟩
  have BM : Box w1 w.heap.size [.int .i64 m.a, .int .i64 m.b, .int .i64 m.c, .int .i64 m.d] := Box.below ((Box.new _ _ _).alloc _) hb1
  have BN : Box w1 (w.heap.size + 1) [.int .i64 n.a, .int .i64 n.b, .int .i64 n.c, .int .i64 n.d] := Box.below (Box.newAt (by simp) _ _) hb1
  have T : Below w.heap.size w w1 := by repeat (first | with_reducible exact own_refl _ | with_reducible assumption | with_reducible apply own_alloc | with_reducible apply own_drewN | with_reducible apply own_drew | ((with_reducible refine own_setCell ?_ ?_ _); rotate_left; focus (first | (simp; done) | (simp; omega))) | (with_reducible (refine own_trans ?_ (by assumption))))
  clear hb1
  obtain ⟨_, _, _, _, _, _, _, _, _⟩ := BN.four
  go_wp2_with fail
  refine (l01Is_m true n HIN.out _).mono ?_
  rintro e w2 ⟨rfl, hb2⟩
  have T := own_trans T hb2
  have BM := BM.below hb2
  have BN := BN.below hb2
  clear hb2
  obtain ⟨_, _, _, _, _, _, _, _, _⟩ := BM.four
  obtain ⟨_, _, _, _, _, _, _, _, _⟩ := BN.four
  go_wp2_with fail
  refine (HT.out _).mono ?_
  rintro e w3 ⟨rfl, hb3⟩
  have T := own_trans T hb3
  have BM := BM.below hb3
  have BN := BN.below hb3
  clear hb3
  have BM := BM.alloc (.cells #[.int .i64 r.a, .int .i64 r.b, .int .i64 r.c, .int .i64 r.d] 25)
  have BN := BN.alloc (.cells #[.int .i64 r.a, .int .i64 r.b, .int .i64 r.c, .int .i64 r.d] 25)
  have BR : Box (w3.alloc (.cells #[.int .i64 r.a, .int .i64 r.b, .int .i64 r.c, .int .i64 r.d] 25)) w3.heap.size [.int .i64 r.a, .int .i64 r.b, .int .i64 r.c, .int .i64 r.d] := Box.new _ _ _
  have T := own_alloc T (.cells #[.int .i64 r.a, .int .i64 r.b, .int .i64 r.c, .int .i64 r.d] 25)
  obtain ⟨_, _, _, _, _, _, _, _, _⟩ := BM.four
  go_wp2_with fail
  refine (HGm.out _).mono ?_
  rintro e w4 ⟨rfl, hb4⟩
  have T := own_trans T hb4
  have BM := BM.below hb4
  have BN := BN.below hb4
  have BR := BR.below hb4
  clear hb4
  obtain ⟨_, _, _, _, _, _, _, _, _⟩ := BM.four
  obtain ⟨_, _, _, _, _, _, _, _, _⟩ := BN.four
  obtain ⟨_, _, _, _, _, _, _, _, _⟩ := BR.four
  go_wp2_with fail
  refine (HGn.out _).mono ?_
  rintro e w4 ⟨rfl, hb4⟩
  have T := own_trans T hb4
  have BM := BM.below hb4
  have BN := BN.below hb4
  have BR := BR.below hb4
  clear hb4
  obtain ⟨_, _, _, _, _, _, _, _, _⟩ := BM.four
  obtain ⟨_, _, _, _, _, _, _, _, _⟩ := BN.four
  obtain ⟨_, _, _, _, _, _, _, _, _⟩ := BR.four
  go_wp2
  go_ret2
  exact ⟨rfl, by repeat (first | with_reducible exact own_refl _ | with_reducible assumption | with_reducible apply own_alloc | with_reducible apply own_drewN | with_reducible apply own_drew | ((with_reducible refine own_setCell ?_ ?_ _); rotate_left; focus (first | (simp; done) | (simp; omega))) | (with_reducible (refine own_trans ?_ (by assumption))))⟩
set_option maxRecDepth 100000 in
set_option maxHeartbeats 4000000 in
theorem specGap_r (m n r : Mat) (ht : TM m n r true) (hm : m.is = true) (hn : n.is = true) (hr : r.is = true) (c1 : (m.c.natAbs : Int) ≤ 20000) (c2 : (n.c.natAbs : Int) ≤ 20000) (c3 : ¬ (r.c.natAbs : Int) ≤ 20000) (w : World) :
    Calls Tryd.prog 5 #[(.agg #[.int .i64 m.a, .int .i64 m.b, .int .i64 m.c, .int .i64 m.d]), (.agg #[.int .i64 n.a, .int .i64 n.b, .int .i64 n.c, .int .i64 n.d])] w fun e w' => e = .returned (.tuple #[(.int .i64 0), (.int .i64 3)]) ∧ Below w.heap.size w w' := by
  have HIM := Lib.hid hm
  have HIN := Lib.hid hn
  obtain ⟨ma, mb, mc, md, _⟩ := Mat.is_ent hm
  obtain ⟨na, nb, nc, nd, _⟩ := Mat.is_ent hn
  have HT := Lib.hid (fun w => times_is m n r true ma mb mc md na nb nc nd ht w)
  have HGm := Lib.hid (fun w => l07Given_ok m.a m.b m.c m.d hm c1 w)
  have HGn := Lib.hid (fun w => l07Given_ok n.a n.b n.c n.d hn c2 w)
  have HGr := Lib.hid (fun w => l07Given_big r.a r.b r.c r.d hr c3 w)
  clear hm hn hr ht ma mb mc md na nb nc nd
  go_enter Tryd.func5, Tryd.ntmps5
  go_wp2_with fail
  refine (l01Is_m true m HIM.out _).mono ?_
  rintro e w1 ⟨rfl, hb1⟩
  have BM : Box w1 w.heap.size [.int .i64 m.a, .int .i64 m.b, .int .i64 m.c, .int .i64 m.d] := Box.below ((Box.new _ _ _).alloc _) hb1
  have BN : Box w1 (w.heap.size + 1) [.int .i64 n.a, .int .i64 n.b, .int .i64 n.c, .int .i64 n.d] := Box.below (Box.newAt (by simp) _ _) hb1
  have T : Below w.heap.size w w1 := by repeat (first | with_reducible exact own_refl _ | with_reducible assumption | with_reducible apply own_alloc | with_reducible apply own_drewN | with_reducible apply own_drew | ((with_reducible refine own_setCell ?_ ?_ _); rotate_left; focus (first | (simp; done) | (simp; omega))) | (with_reducible (refine own_trans ?_ (by assumption))))
  clear hb1
  obtain ⟨_, _, _, _, _, _, _, _, _⟩ := BN.four
  go_wp2_with fail
  refine (l01Is_m true n HIN.out _).mono ?_
  rintro e w2 ⟨rfl, hb2⟩
  have T := own_trans T hb2
  have BM := BM.below hb2
  have BN := BN.below hb2
  clear hb2
  obtain ⟨_, _, _, _, _, _, _, _, _⟩ := BM.four
  obtain ⟨_, _, _, _, _, _, _, _, _⟩ := BN.four
  go_wp2_with fail
  refine (HT.out _).mono ?_
  rintro e w3 ⟨rfl, hb3⟩
  have T := own_trans T hb3
  have BM := BM.below hb3
  have BN := BN.below hb3
  clear hb3
  have BM := BM.alloc (.cells #[.int .i64 r.a, .int .i64 r.b, .int .i64 r.c, .int .i64 r.d] 25)
  have BN := BN.alloc (.cells #[.int .i64 r.a, .int .i64 r.b, .int .i64 r.c, .int .i64 r.d] 25)
  have BR : Box (w3.alloc (.cells #[.int .i64 r.a, .int .i64 r.b, .int .i64 r.c, .int .i64 r.d] 25)) w3.heap.size [.int .i64 r.a, .int .i64 r.b, .int .i64 r.c, .int .i64 r.d] := Box.new _ _ _
  have T := own_alloc T (.cells #[.int .i64 r.a, .int .i64 r.b, .int .i64 r.c, .int .i64 r.d] 25)
  obtain ⟨_, _, _, _, _, _, _, _, _⟩ := BM.four
  go_wp2_with fail
  refine (HGm.out _).mono ?_
  rintro e w4 ⟨rfl, hb4⟩
  have T := own_trans T hb4
  have BM := BM.below hb4
  have BN := BN.below hb4
  have BR := BR.below hb4
  clear hb4
  obtain ⟨_, _, _, _, _, _, _, _, _⟩ := BM.four
  obtain ⟨_, _, _, _, _, _, _, _, _⟩ := BN.four
  obtain ⟨_, _, _, _, _, _, _, _, _⟩ := BR.four
  go_wp2_with fail
  refine (HGn.out _).mono ?_
  rintro e w4 ⟨rfl, hb4⟩
  have T := own_trans T hb4
  have BM := BM.below hb4
  have BN := BN.below hb4
  have BR := BR.below hb4
  clear hb4
  obtain ⟨_, _, _, _, _, _, _, _, _⟩ := BM.four
  obtain ⟨_, _, _, _, _, _, _, _, _⟩ := BN.four
  obtain ⟨_, _, _, _, _, _, _, _, _⟩ := BR.four
  go_wp2_with fail
  refine (HGr.out _).mono ?_
  rintro e w4 ⟨rfl, hb4⟩
  have T := own_trans T hb4
  have BM := BM.below hb4
  have BN := BN.below hb4
  have BR := BR.below hb4
  clear hb4
  obtain ⟨_, _, _, _, _, _, _, _, _⟩ := BM.four
  obtain ⟨_, _, _, _, _, _, _, _, _⟩ := BN.four
  obtain ⟨_, _, _, _, _, _, _, _, _⟩ := BR.four
  go_wp2
  go_ret2
  exact ⟨rfl, by repeat (first | with_reducible exact own_refl _ | with_reducible assumption | with_reducible apply own_alloc | with_reducible apply own_drewN | with_reducible apply own_drew | ((with_reducible refine own_setCell ?_ ?_ _); rotate_left; focus (first | (simp; done) | (simp; omega))) | (with_reducible (refine own_trans ?_ (by assumption))))⟩
set_option maxRecDepth 100000 in
set_option maxHeartbeats 4000000 in
theorem specGap_yes (m n r : Mat) (v : Int) (ht : TM m n r true) (hm : m.is = true) (hn : n.is = true) (hr : r.is = true) (c1 : (m.c.natAbs : Int) ≤ 20000) (c2 : (n.c.natAbs : Int) ≤ 20000) (c3 : (r.c.natAbs : Int) ≤ 20000)
    (hv : fst r.a r.b r.c r.d - fst m.a m.b m.c m.d - fst n.a n.b n.c n.d = v) (w : World) :
    Calls Tryd.prog 5 #[(.agg #[.int .i64 m.a, .int .i64 m.b, .int .i64 m.c, .int .i64 m.d]), (.agg #[.int .i64 n.a, .int .i64 n.b, .int .i64 n.c, .int .i64 n.d])] w fun e w' => e = .returned (.tuple #[(.int .i64 v), (.int .i64 0)]) ∧ Below w.heap.size w w' := by
  have HIM := Lib.hid hm
  have HIN := Lib.hid hn
  obtain ⟨ma, mb, mc, md, _⟩ := Mat.is_ent hm
  obtain ⟨na, nb, nc, nd, _⟩ := Mat.is_ent hn
  have HT := Lib.hid (fun w => times_is m n r true ma mb mc md na nb nc nd ht w)
  have HGm := Lib.hid (fun w => l07Given_ok m.a m.b m.c m.d hm c1 w)
  have HGn := Lib.hid (fun w => l07Given_ok n.a n.b n.c n.d hn c2 w)
  have HGr := Lib.hid (fun w => l07Given_ok r.a r.b r.c r.d hr c3 w)
  have HM := Lib.hid (fun w => l07First_any m.a m.b m.c m.d hm c1 w)
  have HN := Lib.hid (fun w => l07First_any n.a n.b n.c n.d hn c2 w)
  have HR := Lib.hid (fun w => l07First_any r.a r.b r.c r.d hr c3 w)
  have b1 := fst_bd hm c1
  have b2 := fst_bd hn c2
  have b3 := fst_bd hr c3
  have HV := Lib.hid hv
  generalize fst m.a m.b m.c m.d = x at *
  generalize fst n.a n.b n.c n.d = y at *
  generalize fst r.a r.b r.c r.d = z at *
  have e1 : IntKind.i64.wrap (z - x) = z - x := IntWalk.i64_in _ (by omega)
  have e2 : IntKind.i64.wrap (z - x - y) = z - x - y := IntWalk.i64_in _ (by omega)
  clear hm hn hr ht ma mb mc md na nb nc nd
  clear hv c1 c2 c3 b1 b2 b3
  go_enter Tryd.func5, Tryd.ntmps5
  go_wp2_with fail
  refine (l01Is_m true m HIM.out _).mono ?_
  rintro e w1 ⟨rfl, hb1⟩
  have BM : Box w1 w.heap.size [.int .i64 m.a, .int .i64 m.b, .int .i64 m.c, .int .i64 m.d] := Box.below ((Box.new _ _ _).alloc _) hb1
  have BN : Box w1 (w.heap.size + 1) [.int .i64 n.a, .int .i64 n.b, .int .i64 n.c, .int .i64 n.d] := Box.below (Box.newAt (by simp) _ _) hb1
  have T : Below w.heap.size w w1 := by repeat (first | with_reducible exact own_refl _ | with_reducible assumption | with_reducible apply own_alloc | with_reducible apply own_drewN | with_reducible apply own_drew | ((with_reducible refine own_setCell ?_ ?_ _); rotate_left; focus (first | (simp; done) | (simp; omega))) | (with_reducible (refine own_trans ?_ (by assumption))))
  clear hb1
  obtain ⟨_, _, _, _, _, _, _, _, _⟩ := BN.four
  go_wp2_with fail
  refine (l01Is_m true n HIN.out _).mono ?_
  rintro e w2 ⟨rfl, hb2⟩
  have T := own_trans T hb2
  have BM := BM.below hb2
  have BN := BN.below hb2
  clear hb2
  obtain ⟨_, _, _, _, _, _, _, _, _⟩ := BM.four
  obtain ⟨_, _, _, _, _, _, _, _, _⟩ := BN.four
  go_wp2_with fail
  refine (HT.out _).mono ?_
  rintro e w3 ⟨rfl, hb3⟩
  have T := own_trans T hb3
  have BM := BM.below hb3
  have BN := BN.below hb3
  clear hb3
  have BM := BM.alloc (.cells #[.int .i64 r.a, .int .i64 r.b, .int .i64 r.c, .int .i64 r.d] 25)
  have BN := BN.alloc (.cells #[.int .i64 r.a, .int .i64 r.b, .int .i64 r.c, .int .i64 r.d] 25)
  have BR : Box (w3.alloc (.cells #[.int .i64 r.a, .int .i64 r.b, .int .i64 r.c, .int .i64 r.d] 25)) w3.heap.size [.int .i64 r.a, .int .i64 r.b, .int .i64 r.c, .int .i64 r.d] := Box.new _ _ _
  have T := own_alloc T (.cells #[.int .i64 r.a, .int .i64 r.b, .int .i64 r.c, .int .i64 r.d] 25)
  obtain ⟨_, _, _, _, _, _, _, _, _⟩ := BM.four
  go_wp2_with fail
  refine (HGm.out _).mono ?_
  rintro e w4 ⟨rfl, hb4⟩
  have T := own_trans T hb4
  have BM := BM.below hb4
  have BN := BN.below hb4
  have BR := BR.below hb4
  clear hb4
  obtain ⟨_, _, _, _, _, _, _, _, _⟩ := BM.four
  obtain ⟨_, _, _, _, _, _, _, _, _⟩ := BN.four
  obtain ⟨_, _, _, _, _, _, _, _, _⟩ := BR.four
  go_wp2_with fail
  refine (HGn.out _).mono ?_
  rintro e w4 ⟨rfl, hb4⟩
  have T := own_trans T hb4
  have BM := BM.below hb4
  have BN := BN.below hb4
  have BR := BR.below hb4
  clear hb4
  obtain ⟨_, _, _, _, _, _, _, _, _⟩ := BM.four
  obtain ⟨_, _, _, _, _, _, _, _, _⟩ := BN.four
  obtain ⟨_, _, _, _, _, _, _, _, _⟩ := BR.four
  go_wp2_with fail
  refine (HGr.out _).mono ?_
  rintro e w4 ⟨rfl, hb4⟩
  have T := own_trans T hb4
  have BM := BM.below hb4
  have BN := BN.below hb4
  have BR := BR.below hb4
  clear hb4
  obtain ⟨_, _, _, _, _, _, _, _, _⟩ := BM.four
  obtain ⟨_, _, _, _, _, _, _, _, _⟩ := BN.four
  obtain ⟨_, _, _, _, _, _, _, _, _⟩ := BR.four
  go_upto_region 6 with fail
  generalize w3.heap.size = gr at BR ⊢
  obtain ⟨_, _, _, _, _, _, _, _, _⟩ := BM.four
  obtain ⟨_, _, _, _, _, _, _, _, _⟩ := BN.four
  obtain ⟨_, _, _, _, _, _, _, _, _⟩ := BR.four
  go_region_held3 (fun w' => w'.cell? ⟨w.heap.size, 0, none⟩ = some (.int .i64 m.a) ∧ w'.cell? ⟨w.heap.size, 1, none⟩ = some (.int .i64 m.b) ∧ w'.cell? ⟨w.heap.size, 2, none⟩ = some (.int .i64 m.c) ∧ w'.cell? ⟨w.heap.size, 3, none⟩ = some (.int .i64 m.d) ∧
      w'.cell? ⟨w.heap.size + 1, 0, none⟩ = some (.int .i64 n.a) ∧ w'.cell? ⟨w.heap.size + 1, 1, none⟩ = some (.int .i64 n.b) ∧ w'.cell? ⟨w.heap.size + 1, 2, none⟩ = some (.int .i64 n.c) ∧ w'.cell? ⟨w.heap.size + 1, 3, none⟩ = some (.int .i64 n.d) ∧
      w'.cell? ⟨gr, 0, none⟩ = some (.int .i64 r.a) ∧ w'.cell? ⟨gr, 1, none⟩ = some (.int .i64 r.b) ∧ w'.cell? ⟨gr, 2, none⟩ = some (.int .i64 r.c) ∧ w'.cell? ⟨gr, 3, none⟩ = some (.int .i64 r.d)) (go_keep)
    (first | (go_at_call 14; (first | with_reducible refine (HR.out _).mono ?_ | with_reducible refine (HM.out _).mono ?_ | with_reducible refine (HN.out _).mono ?_); rintro e w2 ⟨rfl, hb2⟩; have T := (by first | exact own_trans T hb2 | exact own_trans (own_drew T) hb2 : Below w.heap.size w w2); have BM := Box.below (by first | exact BM | exact Box.drew BM) hb2; have BN := Box.below (by first | exact BN | exact Box.drew BN) hb2; have BR := Box.below (by first | exact BR | exact Box.drew BR) hb2; obtain ⟨_, _, _, _, _, _, _, _, _⟩ := BM.four; obtain ⟨_, _, _, _, _, _, _, _, _⟩ := BN.four; obtain ⟨_, _, _, _, _, _, _, _, _⟩ := BR.four))
  all_goals
    go_wp2
    go_ret2
    exact ⟨ret_int2 HV.out, by repeat (first | with_reducible exact own_refl _ | with_reducible assumption | with_reducible apply own_alloc | with_reducible apply own_drewN | with_reducible apply own_drew | ((with_reducible refine own_setCell ?_ ?_ _); rotate_left; focus (first | (simp; done) | (simp; omega))) | (with_reducible (refine own_trans ?_ (by assumption))))⟩
theorem lawProductGap_walk (a b c d e f g h : Int) (_ : I64 a) (_ : I64 b) (_ : I64 c) (_ : I64 d) (_ : I64 e) (_ : I64 f) (_ : I64 g) (_ : I64 h) (w : World) (hid : Idn w) :
    Calls Tryd.prog 3 #[(.agg #[.int .i64 a, .int .i64 b, .int .i64 c, .int .i64 d]), (.agg #[.int .i64 e, .int .i64 f, .int .i64 g, .int .i64 h])] w fun e w' => e = .returned (.bool true) ∧ Below w.heap.size w w' := by
  obtain ⟨m, hm⟩ : ∃ m : Mat, m = ⟨a, b, c, d⟩ := ⟨_, rfl⟩
  obtain ⟨n, hn⟩ : ∃ n : Mat, n = ⟨e, f, g, h⟩ := ⟨_, rfl⟩
  have key : Calls Tryd.prog 3 #[(.agg #[.int .i64 m.a, .int .i64 m.b, .int .i64 m.c, .int .i64 m.d]), (.agg #[.int .i64 n.a, .int .i64 n.b, .int .i64 n.c, .int .i64 n.d])] w fun e w' => e = .returned (.bool true) ∧ Below w.heap.size w w' := by
    clear hm hn
    rcases h1 : m.is with _ | _
    · exact lawProductGap_of _ _ _ _ _ _ _ _ 0 1 (fun w => specGap_no1 m n h1 w) (fun w hid => implGap_no m n Mat.zero 1 rfl (.inl ⟨by simp [h1], rfl, rfl⟩) w hid) w hid
    rcases h2 : n.is with _ | _
    · exact lawProductGap_of _ _ _ _ _ _ _ _ 0 1 (fun w => specGap_no2 m n h1 h2 w) (fun w hid => implGap_no m n Mat.zero 1 rfl (.inl ⟨by simp [h2], rfl, rfl⟩) w hid) w hid
    rcases h3 : (m.mul n).ok with _ | _
    · exact lawProductGap_of _ _ _ _ _ _ _ _ 0 3 (fun w => specGap_lim m n Mat.zero (.inr ⟨h3, rfl, rfl⟩) h1 h2 w) (fun w hid => implGap_no m n Mat.zero 3 rfl ((PA_two h1 h2).2 h3) w hid) w hid
    have hr := mul_isG h1 h2 h3
    have hp := (PA_two h1 h2).1 h3
    have ht : TM m n (m.mul n) true := .inl ⟨h3, rfl, rfl⟩
    generalize m.mul n = r at *
    have hw := allW3_iff m.c n.c r.c
    by_cases c1 : (m.c.natAbs : Int) ≤ 20000
    · by_cases c2 : (n.c.natAbs : Int) ≤ 20000
      · by_cases c3 : (r.c.natAbs : Int) ≤ 20000
        · exact lawProductGap_of _ _ _ _ _ _ _ _ _ 0 (fun w => specGap_yes m n r _ ht h1 h2 hr c1 c2 c3 rfl w) (fun w hid => implGap_yes m n r _ hp h1 h2 hr (hw.trans (decide_eq_true ⟨c1, c2, c3⟩)) rfl w hid) w hid
        · exact lawProductGap_of _ _ _ _ _ _ _ _ 0 3 (fun w => specGap_r m n r ht h1 h2 hr c1 c2 c3 w) (fun w hid => implGap_big m n r hp (hw.trans (decide_eq_false fun h => c3 h.2.2)) w hid) w hid
      · exact lawProductGap_of _ _ _ _ _ _ _ _ 0 3 (fun w => specGap_n m n r ht h1 h2 c1 c2 w) (fun w hid => implGap_big m n r hp (hw.trans (decide_eq_false fun h => c2 h.2.1)) w hid) w hid
    · exact lawProductGap_of _ _ _ _ _ _ _ _ 0 3 (fun w => specGap_m m n r ht h1 h2 c1 w) (fun w hid => implGap_big m n r hp (hw.trans (decide_eq_false fun h => c1 h.1)) w hid) w hid
  subst hm hn
  exact key
end Go.Proofs.YtajfjfgpiggekaaDoor
