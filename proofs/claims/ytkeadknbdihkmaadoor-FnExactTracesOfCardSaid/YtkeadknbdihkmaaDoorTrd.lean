/- TracesOf: the model's side. -/
import Derived.Test.YtkeadknbdihkmaaDoorTrc
namespace Go.Proofs.YtkeadknbdihkmaaDoor
open Go.ChangeShapes Go.WideShapes Go.ChangeAt Go.RowKit

theorem times_TM (p m q : Mat) (b : Bool) (hp : p.is = true) (hm : m.is = true) (h : TM p m q b) (w : World) :
    Calls Tryd.prog 43 #[(.agg #[.int .i64 p.a, .int .i64 p.b, .int .i64 p.c, .int .i64 p.d]), (.agg #[.int .i64 m.a, .int .i64 m.b, .int .i64 m.c, .int .i64 m.d])] w fun r w' => r = .returned (.tuple #[(.agg #[.int .i64 q.a, .int .i64 q.b, .int .i64 q.c, .int .i64 q.d]), .bool b]) ∧ Below w.heap.size w w' := by
  obtain ⟨h1, h2, h3, h4, _⟩ := Mat.is_ent hp
  obtain ⟨h5, h6, h7, h8, _⟩ := Mat.is_ent hm
  exact times_is p m q b h1 h2 h3 h4 h5 h6 h7 h8 h w
set_option maxHeartbeats 1000000 in
theorem specTrc_bad1 (m n : Mat) (h : m.is = false) (w : World) : Calls Tryd.prog 17 #[(.agg #[.int .i64 m.a, .int .i64 m.b, .int .i64 m.c, .int .i64 m.d]), (.agg #[.int .i64 n.a, .int .i64 n.b, .int .i64 n.c, .int .i64 n.d])] w (RetSC [] 1 w) := by
  have H := Lib.hid h
  clear h
  go_enter Tryd.func17, Tryd.ntmps17
  go_wp2_with fail
  refine (l01Is_m false m H.out _).mono ?_
  rintro e w1 ⟨rfl, hb1⟩
  go_wp2
  go_ret2
  exact ⟨_, rfl, Sl.nil _ _ _ (Nat.le_refl _), by repeat (first | with_reducible exact own_refl _ | with_reducible assumption | with_reducible apply own_alloc | with_reducible apply own_drewN | with_reducible apply own_drew | ((with_reducible refine own_setCell ?_ ?_ _); rotate_left; focus (first | (simp; done) | (simp; omega))) | (with_reducible (refine own_trans ?_ (by assumption))))⟩
set_option maxHeartbeats 1000000 in
theorem specTrc_bad2 (m n : Mat) (h : m.is = true) (h2 : n.is = false) (w : World) : Calls Tryd.prog 17 #[(.agg #[.int .i64 m.a, .int .i64 m.b, .int .i64 m.c, .int .i64 m.d]), (.agg #[.int .i64 n.a, .int .i64 n.b, .int .i64 n.c, .int .i64 n.d])] w (RetSC [] 1 w) := by
  have H := Lib.hid h
  have H2 := Lib.hid h2
  clear h h2
  go_enter Tryd.func17, Tryd.ntmps17
  go_wp2_with fail
  refine (l01Is_m true m H.out _).mono ?_
  rintro e w1 ⟨rfl, hb1⟩
  have B1 : Box w1 (w.heap.size + 1) [.int .i64 n.a, .int .i64 n.b, .int .i64 n.c, .int .i64 n.d] := Box.below (Box.newAt (by simp) _ _) hb1
  obtain ⟨_, _, _, _, _, _, _, _, _⟩ := B1.four
  go_wp2_with fail
  refine (l01Is_m false n H2.out _).mono ?_
  rintro e w2 ⟨rfl, hb2⟩
  go_wp2
  go_ret2
  exact ⟨_, rfl, Sl.nil _ _ _ (Nat.le_refl _), by repeat (first | with_reducible exact own_refl _ | with_reducible assumption | with_reducible apply own_alloc | with_reducible apply own_drewN | with_reducible apply own_drew | ((with_reducible refine own_setCell ?_ ?_ _); rotate_left; focus (first | (simp; done) | (simp; omega))) | (with_reducible (refine own_trans ?_ (by assumption))))⟩
set_option maxHeartbeats 8000000 in
theorem specTrc_yes (m n x y : Mat) (hm : m.is = true) (hn : n.is = true) (ex : Ent x.a ∧ Ent x.d) (ey : Ent y.a ∧ Ent y.d) (h : TM m n x true) (h2 : TM m n.inv y true) (w : World) : Calls Tryd.prog 17 #[(.agg #[.int .i64 m.a, .int .i64 m.b, .int .i64 m.c, .int .i64 m.d]), (.agg #[.int .i64 n.a, .int .i64 n.b, .int .i64 n.c, .int .i64 n.d])] w (RetSC [m.a + m.d, n.a + n.d, x.a + x.d, y.a + y.d] 0 w) := by
  have HC := Lib.hid (times_TM m n x true hm hn h)
  have HQ := Lib.hid (times_TM m n.inv y true hm (Mat.inv_is n hn) h2)
  have HI := Lib.hid (specInverse_m n hn)
  have HM := Lib.hid hm
  have HN := Lib.hid hn
  have em : Ent m.a ∧ Ent m.d := ⟨(Mat.is_ent hm).1, (Mat.is_ent hm).2.2.2.1⟩
  have en : Ent n.a ∧ Ent n.d := ⟨(Mat.is_ent hn).1, (Mat.is_ent hn).2.2.2.1⟩
  have TA : Hid (∀ w : World, Calls Tryd.prog 45 #[(.agg #[.int .i64 m.a, .int .i64 m.b, .int .i64 m.c, .int .i64 m.d])] w fun e w' => e = .returned (.int .i64 (m.a + m.d)) ∧ Below w.heap.size w w') := Lib.hid fun w => l01Trace_any _ _ _ _ em.1 em.2 w
  have TB : Hid (∀ w : World, Calls Tryd.prog 45 #[(.agg #[.int .i64 n.a, .int .i64 n.b, .int .i64 n.c, .int .i64 n.d])] w fun e w' => e = .returned (.int .i64 (n.a + n.d)) ∧ Below w.heap.size w w') := Lib.hid fun w => l01Trace_any _ _ _ _ en.1 en.2 w
  have TX : Hid (∀ w : World, Calls Tryd.prog 45 #[(.agg #[.int .i64 x.a, .int .i64 x.b, .int .i64 x.c, .int .i64 x.d])] w fun e w' => e = .returned (.int .i64 (x.a + x.d)) ∧ Below w.heap.size w w') := Lib.hid fun w => l01Trace_any _ _ _ _ ex.1 ex.2 w
  have TY : Hid (∀ w : World, Calls Tryd.prog 45 #[(.agg #[.int .i64 y.a, .int .i64 y.b, .int .i64 y.c, .int .i64 y.d])] w fun e w' => e = .returned (.int .i64 (y.a + y.d)) ∧ Below w.heap.size w w') := Lib.hid fun w => l01Trace_any _ _ _ _ ey.1 ey.2 w
  clear em en ex ey
  clear h h2 hm hn
  have BA : Box ((w.alloc (.cells #[.int .i64 m.a, .int .i64 m.b, .int .i64 m.c, .int .i64 m.d] 35)).alloc (.cells #[.int .i64 n.a, .int .i64 n.b, .int .i64 n.c, .int .i64 n.d] 35)) w.heap.size [.int .i64 m.a, .int .i64 m.b, .int .i64 m.c, .int .i64 m.d] := Box.alloc (Box.new _ _ _) _
  have BB : Box ((w.alloc (.cells #[.int .i64 m.a, .int .i64 m.b, .int .i64 m.c, .int .i64 m.d] 35)).alloc (.cells #[.int .i64 n.a, .int .i64 n.b, .int .i64 n.c, .int .i64 n.d] 35)) (w.heap.size + 1) [.int .i64 n.a, .int .i64 n.b, .int .i64 n.c, .int .i64 n.d] := Box.newAt (by simp) _ _
  have T : Below w.heap.size w ((w.alloc (.cells #[.int .i64 m.a, .int .i64 m.b, .int .i64 m.c, .int .i64 m.d] 35)).alloc (.cells #[.int .i64 n.a, .int .i64 n.b, .int .i64 n.c, .int .i64 n.d] 35)) := by repeat (first | with_reducible exact own_refl _ | with_reducible assumption | with_reducible apply own_alloc | with_reducible apply own_drewN | with_reducible apply own_drew | ((with_reducible refine own_setCell ?_ ?_ _); rotate_left; focus (first | (simp; done) | (simp; omega))) | (with_reducible (refine own_trans ?_ (by assumption))))
  go_enter Tryd.func17, Tryd.ntmps17
  go_wp2_with fail
  refine (l01Is_m true m HM.out _).mono ?_
  rintro e w1 ⟨rfl, hb1⟩
  have T := own_trans T hb1
  have BA := BA.below hb1
  have BB := BB.below hb1
  obtain ⟨_, _, _, _, _, _, _, _, _⟩ := BB.four
  go_wp2_with fail
  refine (l01Is_m true n HN.out _).mono ?_
  rintro e w2 ⟨rfl, hb2⟩
  have T := own_trans T hb2
  have BA := BA.below hb2
  have BB := BB.below hb2
  obtain ⟨_, _, _, _, _, _, _, _, _⟩ := BA.four
  obtain ⟨_, _, _, _, _, _, _, _, _⟩ := BB.four
  go_wp2_with fail
  refine (HC.out _).mono ?_
  rintro e w3 ⟨rfl, hb3⟩
  have T := own_alloc (own_trans T hb3) (.cells #[.int .i64 x.a, .int .i64 x.b, .int .i64 x.c, .int .i64 x.d] 35)
  have BA := (BA.below hb3).alloc (.cells #[.int .i64 x.a, .int .i64 x.b, .int .i64 x.c, .int .i64 x.d] 35)
  have BB := (BB.below hb3).alloc (.cells #[.int .i64 x.a, .int .i64 x.b, .int .i64 x.c, .int .i64 x.d] 35)
  have BX : Box (w3.alloc (.cells #[.int .i64 x.a, .int .i64 x.b, .int .i64 x.c, .int .i64 x.d] 35)) w3.heap.size [.int .i64 x.a, .int .i64 x.b, .int .i64 x.c, .int .i64 x.d] := Box.new _ _ _
  go_upto_region 4 with fail
  generalize (w3.alloc (.cells #[.int .i64 x.a, .int .i64 x.b, .int .i64 x.c, .int .i64 x.d] 35)) = V at *
  obtain ⟨g0, hg0⟩ : ∃ g, w3.heap.size = g := ⟨_, rfl⟩
  rw [hg0] at BX ⊢
  clear hb1 hb2 hb3 hg0
  have ne1 : ¬ (V.heap.size = w.heap.size) := by have := BA.1; omega
  have ne2 : ¬ (V.heap.size = w.heap.size + 1) := by have := BB.1; omega
  have ne3 : ¬ (V.heap.size = g0) := by have := BX.1; omega
  have hzr : w.heap.size ≤ V.heap.size := T.size
  obtain ⟨_, _, _, _, _, _, _, _, _⟩ := BA.four
  obtain ⟨_, _, _, _, _, _, _, _, _⟩ := BB.four
  obtain ⟨_, _, _, _, _, _, _, _, _⟩ := BX.four
  go_upto_region 4 with fail
  go_cut [8, 9] (fun s8 s9 wx => ∃ g, s8 = .pointer (some ⟨g, 0, none⟩) ∧ s9 = .bool true ∧ ¬ g = w.heap.size ∧ ¬ g = w.heap.size + 1 ∧ ¬ g = g0 ∧ Below w.heap.size w wx ∧ Box wx w.heap.size [.int .i64 m.a, .int .i64 m.b, .int .i64 m.c, .int .i64 m.d] ∧ Box wx (w.heap.size + 1) [.int .i64 n.a, .int .i64 n.b, .int .i64 n.c, .int .i64 n.d] ∧ Box wx g0 [.int .i64 x.a, .int .i64 x.b, .int .i64 x.c, .int .i64 x.d] ∧ Box wx g [.int .i64 y.a, .int .i64 y.b, .int .i64 y.c, .int .i64 y.d])
  case first =>
    go_region_held3 (fun w' => w'.cell? ⟨w.heap.size, 0, none⟩ = some (.int .i64 m.a) ∧ w'.cell? ⟨w.heap.size, 1, none⟩ = some (.int .i64 m.b) ∧ w'.cell? ⟨w.heap.size, 2, none⟩ = some (.int .i64 m.c) ∧ w'.cell? ⟨w.heap.size, 3, none⟩ = some (.int .i64 m.d) ∧ w'.cell? ⟨w.heap.size + 1, 0, none⟩ = some (.int .i64 n.a) ∧ w'.cell? ⟨w.heap.size + 1, 1, none⟩ = some (.int .i64 n.b) ∧ w'.cell? ⟨w.heap.size + 1, 2, none⟩ = some (.int .i64 n.c) ∧ w'.cell? ⟨w.heap.size + 1, 3, none⟩ = some (.int .i64 n.d)) (go_keep)
      (first
      | (go_at_call 44; refine (HI.out _).mono ?_; rintro e w1 ⟨rfl, hb1⟩; have T := (by first | exact own_trans T hb1 | exact own_trans (own_drew T) hb1 | exact own_trans (own_drew (own_alloc T _)) hb1 | exact own_trans (own_alloc T _) hb1 | exact own_trans (own_alloc (own_drew T) _) hb1 : Below w.heap.size w w1); have BA := Box.below (by first | exact BA | exact Box.drew BA | exact Box.drew (Box.alloc BA _) | exact Box.alloc BA _ | exact Box.alloc (Box.drew BA) _) hb1; obtain ⟨_, _, _, _, _, _, _, _, _⟩ := BA.four; have BB := Box.below (by first | exact BB | exact Box.drew BB | exact Box.drew (Box.alloc BB _) | exact Box.alloc BB _ | exact Box.alloc (Box.drew BB) _) hb1; obtain ⟨_, _, _, _, _, _, _, _, _⟩ := BB.four; have BX := Box.below (by first | exact BX | exact Box.drew BX | exact Box.drew (Box.alloc BX _) | exact Box.alloc BX _ | exact Box.alloc (Box.drew BX) _) hb1; obtain ⟨_, _, _, _, _, _, _, _, _⟩ := BX.four; have ne1 : ¬ (w1.heap.size = w.heap.size) := (by have := BA.1; omega); have ne2 : ¬ (w1.heap.size = w.heap.size + 1) := (by have := BB.1; omega); have ne3 : ¬ (w1.heap.size = g0) := (by have := BX.1; omega); have hz1 : w.heap.size ≤ w1.heap.size := T.size; first | (have BZ := Box.below (by first | exact BZ | exact Box.drew BZ) hb1; obtain ⟨_, _, _, _, _, _, _, _, _⟩ := BZ.four) | (have BZ : Box w1 V.heap.size [.int .i64 0, .int .i64 0, .int .i64 0, .int .i64 0] := Box.below (by first | exact Box.new _ _ _ | exact Box.drew (Box.new _ _ _) | exact Box.newAt rfl _ _) hb1; obtain ⟨_, _, _, _, _, _, _, _, _⟩ := BZ.four) | (have BZ : Box w1 _ [.int .i64 0, .int .i64 0, .int .i64 0, .int .i64 0] := Box.below (by first | exact Box.new _ _ _ | exact Box.drew (Box.new _ _ _)) hb1; obtain ⟨_, _, _, _, _, _, _, _, _⟩ := BZ.four) | skip)
      | (go_at_call 43; refine (HQ.out _).mono ?_; rintro e w1 ⟨rfl, hb1⟩; have T := (by first | exact own_trans T hb1 | exact own_trans (own_drew T) hb1 | exact own_trans (own_drew (own_alloc T _)) hb1 | exact own_trans (own_alloc T _) hb1 | exact own_trans (own_alloc (own_drew T) _) hb1 : Below w.heap.size w w1); have BA := Box.below (by first | exact BA | exact Box.drew BA | exact Box.drew (Box.alloc BA _) | exact Box.alloc BA _ | exact Box.alloc (Box.drew BA) _) hb1; obtain ⟨_, _, _, _, _, _, _, _, _⟩ := BA.four; have BB := Box.below (by first | exact BB | exact Box.drew BB | exact Box.drew (Box.alloc BB _) | exact Box.alloc BB _ | exact Box.alloc (Box.drew BB) _) hb1; obtain ⟨_, _, _, _, _, _, _, _, _⟩ := BB.four; have BX := Box.below (by first | exact BX | exact Box.drew BX | exact Box.drew (Box.alloc BX _) | exact Box.alloc BX _ | exact Box.alloc (Box.drew BX) _) hb1; obtain ⟨_, _, _, _, _, _, _, _, _⟩ := BX.four; have ne1 : ¬ (w1.heap.size = w.heap.size) := (by have := BA.1; omega); have ne2 : ¬ (w1.heap.size = w.heap.size + 1) := (by have := BB.1; omega); have ne3 : ¬ (w1.heap.size = g0) := (by have := BX.1; omega); have hz1 : w.heap.size ≤ w1.heap.size := T.size; first | (have BZ := Box.below (by first | exact BZ | exact Box.drew BZ) hb1; obtain ⟨_, _, _, _, _, _, _, _, _⟩ := BZ.four) | (have BZ : Box w1 V.heap.size [.int .i64 0, .int .i64 0, .int .i64 0, .int .i64 0] := Box.below (by first | exact Box.new _ _ _ | exact Box.drew (Box.new _ _ _) | exact Box.newAt rfl _ _) hb1; obtain ⟨_, _, _, _, _, _, _, _, _⟩ := BZ.four) | (have BZ : Box w1 _ [.int .i64 0, .int .i64 0, .int .i64 0, .int .i64 0] := Box.below (by first | exact Box.new _ _ _ | exact Box.drew (Box.new _ _ _)) hb1; obtain ⟨_, _, _, _, _, _, _, _, _⟩ := BZ.four) | skip))
    all_goals
      go_wp2_with fail
      go_meet
      first
        | exact ⟨_, rfl, rfl, by assumption, by assumption, by assumption, own_alloc T _, BA.alloc _, BB.alloc _, BX.alloc _, Box.new _ _ _⟩
        | (refine ⟨_, rfl, rfl, by assumption, by assumption, by assumption, (((T.setCell (by first | assumption | omega) _).setCell (by first | assumption | omega) _).setCell (by first | assumption | omega) _).setCell (by first | assumption | omega) _, ?_, ?_, ?_, BZ.put4 _ _ _ _⟩
           · exact (((BA.far (Ne.symm (by assumption)) _).far (Ne.symm (by assumption)) _).far (Ne.symm (by assumption)) _).far (Ne.symm (by assumption)) _
           · exact (((BB.far (Ne.symm (by assumption)) _).far (Ne.symm (by assumption)) _).far (Ne.symm (by assumption)) _).far (Ne.symm (by assumption)) _
           · exact (((BX.far (Ne.symm (by assumption)) _).far (Ne.symm (by assumption)) _).far (Ne.symm (by assumption)) _).far (Ne.symm (by assumption)) _)
  case rest =>
    obtain ⟨g1, rfl, rfl, hg1, hg2, hg3, T, BA, BB, BX, BY⟩ := hcut
    obtain ⟨_, _, _, _, _, _, _, _, _⟩ := BA.four
    obtain ⟨_, _, _, _, _, _, _, _, _⟩ := BB.four
    obtain ⟨_, _, _, _, _, _, _, _, _⟩ := BX.four
    obtain ⟨_, _, _, _, _, _, _, _, _⟩ := BY.four
    go_upto_region 7 with fail
    go_cut [4, 5] (fun s4 s5 wx => ∃ g, s4 = .slice (some ⟨g, 0, none⟩) 4 4 ∧ s5 = (.int .i64 0) ∧ w.heap.size ≤ g ∧ Below w.heap.size w wx ∧ Box wx g [.int .i64 (m.a + m.d), .int .i64 (n.a + n.d), .int .i64 (x.a + x.d), .int .i64 (y.a + y.d)])
    case first =>
      go_region_held3 (fun w' => w'.cell? ⟨w.heap.size, 0, none⟩ = some (.int .i64 m.a) ∧ w'.cell? ⟨w.heap.size, 1, none⟩ = some (.int .i64 m.b) ∧ w'.cell? ⟨w.heap.size, 2, none⟩ = some (.int .i64 m.c) ∧ w'.cell? ⟨w.heap.size, 3, none⟩ = some (.int .i64 m.d) ∧ w'.cell? ⟨w.heap.size + 1, 0, none⟩ = some (.int .i64 n.a) ∧ w'.cell? ⟨w.heap.size + 1, 1, none⟩ = some (.int .i64 n.b) ∧ w'.cell? ⟨w.heap.size + 1, 2, none⟩ = some (.int .i64 n.c) ∧ w'.cell? ⟨w.heap.size + 1, 3, none⟩ = some (.int .i64 n.d) ∧ w'.cell? ⟨g0, 0, none⟩ = some (.int .i64 x.a) ∧ w'.cell? ⟨g0, 1, none⟩ = some (.int .i64 x.b) ∧ w'.cell? ⟨g0, 2, none⟩ = some (.int .i64 x.c) ∧ w'.cell? ⟨g0, 3, none⟩ = some (.int .i64 x.d) ∧ w'.cell? ⟨g1, 0, none⟩ = some (.int .i64 y.a) ∧ w'.cell? ⟨g1, 1, none⟩ = some (.int .i64 y.b) ∧ w'.cell? ⟨g1, 2, none⟩ = some (.int .i64 y.c) ∧ w'.cell? ⟨g1, 3, none⟩ = some (.int .i64 y.d)) (go_keep)
        (first
        | (go_at_call 45; with_reducible refine (TA.out _).mono ?_; rintro e w1 ⟨rfl, hb1⟩; have T := (by first | exact own_trans T hb1 | exact own_trans (own_drew T) hb1 : Below w.heap.size w w1); have BA := Box.below (by first | exact BA | exact Box.drew BA) hb1; obtain ⟨_, _, _, _, _, _, _, _, _⟩ := BA.four; have BB := Box.below (by first | exact BB | exact Box.drew BB) hb1; obtain ⟨_, _, _, _, _, _, _, _, _⟩ := BB.four; have BX := Box.below (by first | exact BX | exact Box.drew BX) hb1; obtain ⟨_, _, _, _, _, _, _, _, _⟩ := BX.four; have BY := Box.below (by first | exact BY | exact Box.drew BY) hb1; obtain ⟨_, _, _, _, _, _, _, _, _⟩ := BY.four)
        | (go_at_call 45; with_reducible refine (TB.out _).mono ?_; rintro e w1 ⟨rfl, hb1⟩; have T := (by first | exact own_trans T hb1 | exact own_trans (own_drew T) hb1 : Below w.heap.size w w1); have BA := Box.below (by first | exact BA | exact Box.drew BA) hb1; obtain ⟨_, _, _, _, _, _, _, _, _⟩ := BA.four; have BB := Box.below (by first | exact BB | exact Box.drew BB) hb1; obtain ⟨_, _, _, _, _, _, _, _, _⟩ := BB.four; have BX := Box.below (by first | exact BX | exact Box.drew BX) hb1; obtain ⟨_, _, _, _, _, _, _, _, _⟩ := BX.four; have BY := Box.below (by first | exact BY | exact Box.drew BY) hb1; obtain ⟨_, _, _, _, _, _, _, _, _⟩ := BY.four)
        | (go_at_call 45; with_reducible refine (TX.out _).mono ?_; rintro e w1 ⟨rfl, hb1⟩; have T := (by first | exact own_trans T hb1 | exact own_trans (own_drew T) hb1 : Below w.heap.size w w1); have BA := Box.below (by first | exact BA | exact Box.drew BA) hb1; obtain ⟨_, _, _, _, _, _, _, _, _⟩ := BA.four; have BB := Box.below (by first | exact BB | exact Box.drew BB) hb1; obtain ⟨_, _, _, _, _, _, _, _, _⟩ := BB.four; have BX := Box.below (by first | exact BX | exact Box.drew BX) hb1; obtain ⟨_, _, _, _, _, _, _, _, _⟩ := BX.four; have BY := Box.below (by first | exact BY | exact Box.drew BY) hb1; obtain ⟨_, _, _, _, _, _, _, _, _⟩ := BY.four)
        | (go_at_call 45; with_reducible refine (TY.out _).mono ?_; rintro e w1 ⟨rfl, hb1⟩; have T := (by first | exact own_trans T hb1 | exact own_trans (own_drew T) hb1 : Below w.heap.size w w1); have BA := Box.below (by first | exact BA | exact Box.drew BA) hb1; obtain ⟨_, _, _, _, _, _, _, _, _⟩ := BA.four; have BB := Box.below (by first | exact BB | exact Box.drew BB) hb1; obtain ⟨_, _, _, _, _, _, _, _, _⟩ := BB.four; have BX := Box.below (by first | exact BX | exact Box.drew BX) hb1; obtain ⟨_, _, _, _, _, _, _, _, _⟩ := BX.four; have BY := Box.below (by first | exact BY | exact Box.drew BY) hb1; obtain ⟨_, _, _, _, _, _, _, _, _⟩ := BY.four))
      all_goals
        go_wp2_with fail
        go_meet
        exact ⟨_, rfl, rfl, T.size, own_alloc T _, Box.new _ _ _⟩
    case rest =>
      obtain ⟨g, rfl, rfl, hg, T, B⟩ := hcut
      go_wp2
      go_ret2
      exact ⟨_, rfl, sl_four B hg, T⟩
set_option maxHeartbeats 8000000 in
theorem specTrc_two (m n x y : Mat) (hm : m.is = true) (hn : n.is = true) (h : TM m n x true) (h2 : TM m n.inv y false) (w : World) : Calls Tryd.prog 17 #[(.agg #[.int .i64 m.a, .int .i64 m.b, .int .i64 m.c, .int .i64 m.d]), (.agg #[.int .i64 n.a, .int .i64 n.b, .int .i64 n.c, .int .i64 n.d])] w (RetSC [] 3 w) := by
  have HC := Lib.hid (times_TM m n x true hm hn h)
  have HQ := Lib.hid (times_TM m n.inv y false hm (Mat.inv_is n hn) h2)
  have HI := Lib.hid (specInverse_m n hn)
  have HM := Lib.hid hm
  have HN := Lib.hid hn
  clear h h2 hm hn
  have BA : Box ((w.alloc (.cells #[.int .i64 m.a, .int .i64 m.b, .int .i64 m.c, .int .i64 m.d] 35)).alloc (.cells #[.int .i64 n.a, .int .i64 n.b, .int .i64 n.c, .int .i64 n.d] 35)) w.heap.size [.int .i64 m.a, .int .i64 m.b, .int .i64 m.c, .int .i64 m.d] := Box.alloc (Box.new _ _ _) _
  have BB : Box ((w.alloc (.cells #[.int .i64 m.a, .int .i64 m.b, .int .i64 m.c, .int .i64 m.d] 35)).alloc (.cells #[.int .i64 n.a, .int .i64 n.b, .int .i64 n.c, .int .i64 n.d] 35)) (w.heap.size + 1) [.int .i64 n.a, .int .i64 n.b, .int .i64 n.c, .int .i64 n.d] := Box.newAt (by simp) _ _
  have T : Below w.heap.size w ((w.alloc (.cells #[.int .i64 m.a, .int .i64 m.b, .int .i64 m.c, .int .i64 m.d] 35)).alloc (.cells #[.int .i64 n.a, .int .i64 n.b, .int .i64 n.c, .int .i64 n.d] 35)) := by repeat (first | with_reducible exact own_refl _ | with_reducible assumption | with_reducible apply own_alloc | with_reducible apply own_drewN | with_reducible apply own_drew | ((with_reducible refine own_setCell ?_ ?_ _); rotate_left; focus (first | (simp; done) | (simp; omega))) | (with_reducible (refine own_trans ?_ (by assumption))))
  go_enter Tryd.func17, Tryd.ntmps17
  go_wp2_with fail
  refine (l01Is_m true m HM.out _).mono ?_
  rintro e w1 ⟨rfl, hb1⟩
  have T := own_trans T hb1
  have BA := BA.below hb1
  have BB := BB.below hb1
  obtain ⟨_, _, _, _, _, _, _, _, _⟩ := BB.four
  go_wp2_with fail
  refine (l01Is_m true n HN.out _).mono ?_
  rintro e w2 ⟨rfl, hb2⟩
  have T := own_trans T hb2
  have BA := BA.below hb2
  have BB := BB.below hb2
  obtain ⟨_, _, _, _, _, _, _, _, _⟩ := BA.four
  obtain ⟨_, _, _, _, _, _, _, _, _⟩ := BB.four
  go_wp2_with fail
  refine (HC.out _).mono ?_
  rintro e w3 ⟨rfl, hb3⟩
  have T := own_alloc (own_trans T hb3) (.cells #[.int .i64 x.a, .int .i64 x.b, .int .i64 x.c, .int .i64 x.d] 35)
  have BA := (BA.below hb3).alloc (.cells #[.int .i64 x.a, .int .i64 x.b, .int .i64 x.c, .int .i64 x.d] 35)
  have BB := (BB.below hb3).alloc (.cells #[.int .i64 x.a, .int .i64 x.b, .int .i64 x.c, .int .i64 x.d] 35)
  have BX : Box (w3.alloc (.cells #[.int .i64 x.a, .int .i64 x.b, .int .i64 x.c, .int .i64 x.d] 35)) w3.heap.size [.int .i64 x.a, .int .i64 x.b, .int .i64 x.c, .int .i64 x.d] := Box.new _ _ _
  go_upto_region 4 with fail
  generalize (w3.alloc (.cells #[.int .i64 x.a, .int .i64 x.b, .int .i64 x.c, .int .i64 x.d] 35)) = V at *
  obtain ⟨g0, hg0⟩ : ∃ g, w3.heap.size = g := ⟨_, rfl⟩
  rw [hg0] at BX ⊢
  clear hb1 hb2 hb3 hg0
  have ne1 : ¬ (V.heap.size = w.heap.size) := by have := BA.1; omega
  have ne2 : ¬ (V.heap.size = w.heap.size + 1) := by have := BB.1; omega
  have ne3 : ¬ (V.heap.size = g0) := by have := BX.1; omega
  have hzr : w.heap.size ≤ V.heap.size := T.size
  obtain ⟨_, _, _, _, _, _, _, _, _⟩ := BA.four
  obtain ⟨_, _, _, _, _, _, _, _, _⟩ := BB.four
  obtain ⟨_, _, _, _, _, _, _, _, _⟩ := BX.four
  go_upto_region 4 with fail
  go_cut [8, 9] (fun s8 s9 wx => ∃ g, s8 = .pointer (some ⟨g, 0, none⟩) ∧ s9 = .bool false ∧ ¬ g = w.heap.size ∧ ¬ g = w.heap.size + 1 ∧ ¬ g = g0 ∧ Below w.heap.size w wx ∧ Box wx w.heap.size [.int .i64 m.a, .int .i64 m.b, .int .i64 m.c, .int .i64 m.d] ∧ Box wx (w.heap.size + 1) [.int .i64 n.a, .int .i64 n.b, .int .i64 n.c, .int .i64 n.d] ∧ Box wx g0 [.int .i64 x.a, .int .i64 x.b, .int .i64 x.c, .int .i64 x.d] ∧ Box wx g [.int .i64 y.a, .int .i64 y.b, .int .i64 y.c, .int .i64 y.d])
  case first =>
    go_region_held3 (fun w' => w'.cell? ⟨w.heap.size, 0, none⟩ = some (.int .i64 m.a) ∧ w'.cell? ⟨w.heap.size, 1, none⟩ = some (.int .i64 m.b) ∧ w'.cell? ⟨w.heap.size, 2, none⟩ = some (.int .i64 m.c) ∧ w'.cell? ⟨w.heap.size, 3, none⟩ = some (.int .i64 m.d) ∧ w'.cell? ⟨w.heap.size + 1, 0, none⟩ = some (.int .i64 n.a) ∧ w'.cell? ⟨w.heap.size + 1, 1, none⟩ = some (.int .i64 n.b) ∧ w'.cell? ⟨w.heap.size + 1, 2, none⟩ = some (.int .i64 n.c) ∧ w'.cell? ⟨w.heap.size + 1, 3, none⟩ = some (.int .i64 n.d)) (go_keep)
      (first
      | (go_at_call 44; refine (HI.out _).mono ?_; rintro e w1 ⟨rfl, hb1⟩; have T := (by first | exact own_trans T hb1 | exact own_trans (own_drew T) hb1 | exact own_trans (own_drew (own_alloc T _)) hb1 | exact own_trans (own_alloc T _) hb1 | exact own_trans (own_alloc (own_drew T) _) hb1 : Below w.heap.size w w1); have BA := Box.below (by first | exact BA | exact Box.drew BA | exact Box.drew (Box.alloc BA _) | exact Box.alloc BA _ | exact Box.alloc (Box.drew BA) _) hb1; obtain ⟨_, _, _, _, _, _, _, _, _⟩ := BA.four; have BB := Box.below (by first | exact BB | exact Box.drew BB | exact Box.drew (Box.alloc BB _) | exact Box.alloc BB _ | exact Box.alloc (Box.drew BB) _) hb1; obtain ⟨_, _, _, _, _, _, _, _, _⟩ := BB.four; have BX := Box.below (by first | exact BX | exact Box.drew BX | exact Box.drew (Box.alloc BX _) | exact Box.alloc BX _ | exact Box.alloc (Box.drew BX) _) hb1; obtain ⟨_, _, _, _, _, _, _, _, _⟩ := BX.four; have ne1 : ¬ (w1.heap.size = w.heap.size) := (by have := BA.1; omega); have ne2 : ¬ (w1.heap.size = w.heap.size + 1) := (by have := BB.1; omega); have ne3 : ¬ (w1.heap.size = g0) := (by have := BX.1; omega); have hz1 : w.heap.size ≤ w1.heap.size := T.size; first | (have BZ := Box.below (by first | exact BZ | exact Box.drew BZ) hb1; obtain ⟨_, _, _, _, _, _, _, _, _⟩ := BZ.four) | (have BZ : Box w1 V.heap.size [.int .i64 0, .int .i64 0, .int .i64 0, .int .i64 0] := Box.below (by first | exact Box.new _ _ _ | exact Box.drew (Box.new _ _ _) | exact Box.newAt rfl _ _) hb1; obtain ⟨_, _, _, _, _, _, _, _, _⟩ := BZ.four) | (have BZ : Box w1 _ [.int .i64 0, .int .i64 0, .int .i64 0, .int .i64 0] := Box.below (by first | exact Box.new _ _ _ | exact Box.drew (Box.new _ _ _)) hb1; obtain ⟨_, _, _, _, _, _, _, _, _⟩ := BZ.four) | skip)
      | (go_at_call 43; refine (HQ.out _).mono ?_; rintro e w1 ⟨rfl, hb1⟩; have T := (by first | exact own_trans T hb1 | exact own_trans (own_drew T) hb1 | exact own_trans (own_drew (own_alloc T _)) hb1 | exact own_trans (own_alloc T _) hb1 | exact own_trans (own_alloc (own_drew T) _) hb1 : Below w.heap.size w w1); have BA := Box.below (by first | exact BA | exact Box.drew BA | exact Box.drew (Box.alloc BA _) | exact Box.alloc BA _ | exact Box.alloc (Box.drew BA) _) hb1; obtain ⟨_, _, _, _, _, _, _, _, _⟩ := BA.four; have BB := Box.below (by first | exact BB | exact Box.drew BB | exact Box.drew (Box.alloc BB _) | exact Box.alloc BB _ | exact Box.alloc (Box.drew BB) _) hb1; obtain ⟨_, _, _, _, _, _, _, _, _⟩ := BB.four; have BX := Box.below (by first | exact BX | exact Box.drew BX | exact Box.drew (Box.alloc BX _) | exact Box.alloc BX _ | exact Box.alloc (Box.drew BX) _) hb1; obtain ⟨_, _, _, _, _, _, _, _, _⟩ := BX.four; have ne1 : ¬ (w1.heap.size = w.heap.size) := (by have := BA.1; omega); have ne2 : ¬ (w1.heap.size = w.heap.size + 1) := (by have := BB.1; omega); have ne3 : ¬ (w1.heap.size = g0) := (by have := BX.1; omega); have hz1 : w.heap.size ≤ w1.heap.size := T.size; first | (have BZ := Box.below (by first | exact BZ | exact Box.drew BZ) hb1; obtain ⟨_, _, _, _, _, _, _, _, _⟩ := BZ.four) | (have BZ : Box w1 V.heap.size [.int .i64 0, .int .i64 0, .int .i64 0, .int .i64 0] := Box.below (by first | exact Box.new _ _ _ | exact Box.drew (Box.new _ _ _) | exact Box.newAt rfl _ _) hb1; obtain ⟨_, _, _, _, _, _, _, _, _⟩ := BZ.four) | (have BZ : Box w1 _ [.int .i64 0, .int .i64 0, .int .i64 0, .int .i64 0] := Box.below (by first | exact Box.new _ _ _ | exact Box.drew (Box.new _ _ _)) hb1; obtain ⟨_, _, _, _, _, _, _, _, _⟩ := BZ.four) | skip))
    all_goals
      go_wp2_with fail
      go_meet
      first
        | exact ⟨_, rfl, rfl, by assumption, by assumption, by assumption, own_alloc T _, BA.alloc _, BB.alloc _, BX.alloc _, Box.new _ _ _⟩
        | (refine ⟨_, rfl, rfl, by assumption, by assumption, by assumption, (((T.setCell (by first | assumption | omega) _).setCell (by first | assumption | omega) _).setCell (by first | assumption | omega) _).setCell (by first | assumption | omega) _, ?_, ?_, ?_, BZ.put4 _ _ _ _⟩
           · exact (((BA.far (Ne.symm (by assumption)) _).far (Ne.symm (by assumption)) _).far (Ne.symm (by assumption)) _).far (Ne.symm (by assumption)) _
           · exact (((BB.far (Ne.symm (by assumption)) _).far (Ne.symm (by assumption)) _).far (Ne.symm (by assumption)) _).far (Ne.symm (by assumption)) _
           · exact (((BX.far (Ne.symm (by assumption)) _).far (Ne.symm (by assumption)) _).far (Ne.symm (by assumption)) _).far (Ne.symm (by assumption)) _)
  case rest =>
    obtain ⟨g1, rfl, rfl, hg1, hg2, hg3, T, BA, BB, BX, BY⟩ := hcut
    obtain ⟨_, _, _, _, _, _, _, _, _⟩ := BA.four
    obtain ⟨_, _, _, _, _, _, _, _, _⟩ := BB.four
    obtain ⟨_, _, _, _, _, _, _, _, _⟩ := BX.four
    obtain ⟨_, _, _, _, _, _, _, _, _⟩ := BY.four
    go_wp2
    go_ret2
    exact ⟨_, rfl, Sl.nil _ _ _ (Nat.le_refl _), T⟩
set_option maxHeartbeats 8000000 in
theorem specTrc_one (m n x y : Mat) (b2 : Bool) (hm : m.is = true) (hn : n.is = true) (h : TM m n x false) (h2 : TM m n.inv y b2) (w : World) : Calls Tryd.prog 17 #[(.agg #[.int .i64 m.a, .int .i64 m.b, .int .i64 m.c, .int .i64 m.d]), (.agg #[.int .i64 n.a, .int .i64 n.b, .int .i64 n.c, .int .i64 n.d])] w (RetSC [] 3 w) := by
  have HC := Lib.hid (times_TM m n x false hm hn h)
  have HQ := Lib.hid (times_TM m n.inv y b2 hm (Mat.inv_is n hn) h2)
  have HI := Lib.hid (specInverse_m n hn)
  have HM := Lib.hid hm
  have HN := Lib.hid hn
  clear h h2 hm hn
  have BA : Box ((w.alloc (.cells #[.int .i64 m.a, .int .i64 m.b, .int .i64 m.c, .int .i64 m.d] 35)).alloc (.cells #[.int .i64 n.a, .int .i64 n.b, .int .i64 n.c, .int .i64 n.d] 35)) w.heap.size [.int .i64 m.a, .int .i64 m.b, .int .i64 m.c, .int .i64 m.d] := Box.alloc (Box.new _ _ _) _
  have BB : Box ((w.alloc (.cells #[.int .i64 m.a, .int .i64 m.b, .int .i64 m.c, .int .i64 m.d] 35)).alloc (.cells #[.int .i64 n.a, .int .i64 n.b, .int .i64 n.c, .int .i64 n.d] 35)) (w.heap.size + 1) [.int .i64 n.a, .int .i64 n.b, .int .i64 n.c, .int .i64 n.d] := Box.newAt (by simp) _ _
  have T : Below w.heap.size w ((w.alloc (.cells #[.int .i64 m.a, .int .i64 m.b, .int .i64 m.c, .int .i64 m.d] 35)).alloc (.cells #[.int .i64 n.a, .int .i64 n.b, .int .i64 n.c, .int .i64 n.d] 35)) := by repeat (first | with_reducible exact own_refl _ | with_reducible assumption | with_reducible apply own_alloc | with_reducible apply own_drewN | with_reducible apply own_drew | ((with_reducible refine own_setCell ?_ ?_ _); rotate_left; focus (first | (simp; done) | (simp; omega))) | (with_reducible (refine own_trans ?_ (by assumption))))
  go_enter Tryd.func17, Tryd.ntmps17
  go_wp2_with fail
  refine (l01Is_m true m HM.out _).mono ?_
  rintro e w1 ⟨rfl, hb1⟩
  have T := own_trans T hb1
  have BA := BA.below hb1
  have BB := BB.below hb1
  obtain ⟨_, _, _, _, _, _, _, _, _⟩ := BB.four
  go_wp2_with fail
  refine (l01Is_m true n HN.out _).mono ?_
  rintro e w2 ⟨rfl, hb2⟩
  have T := own_trans T hb2
  have BA := BA.below hb2
  have BB := BB.below hb2
  obtain ⟨_, _, _, _, _, _, _, _, _⟩ := BA.four
  obtain ⟨_, _, _, _, _, _, _, _, _⟩ := BB.four
  go_wp2_with fail
  refine (HC.out _).mono ?_
  rintro e w3 ⟨rfl, hb3⟩
  have T := own_alloc (own_trans T hb3) (.cells #[.int .i64 x.a, .int .i64 x.b, .int .i64 x.c, .int .i64 x.d] 35)
  have BA := (BA.below hb3).alloc (.cells #[.int .i64 x.a, .int .i64 x.b, .int .i64 x.c, .int .i64 x.d] 35)
  have BB := (BB.below hb3).alloc (.cells #[.int .i64 x.a, .int .i64 x.b, .int .i64 x.c, .int .i64 x.d] 35)
  have BX : Box (w3.alloc (.cells #[.int .i64 x.a, .int .i64 x.b, .int .i64 x.c, .int .i64 x.d] 35)) w3.heap.size [.int .i64 x.a, .int .i64 x.b, .int .i64 x.c, .int .i64 x.d] := Box.new _ _ _
  go_upto_region 4 with fail
  generalize (w3.alloc (.cells #[.int .i64 x.a, .int .i64 x.b, .int .i64 x.c, .int .i64 x.d] 35)) = V at *
  obtain ⟨g0, hg0⟩ : ∃ g, w3.heap.size = g := ⟨_, rfl⟩
  rw [hg0] at BX ⊢
  clear hb1 hb2 hb3 hg0
  have ne1 : ¬ (V.heap.size = w.heap.size) := by have := BA.1; omega
  have ne2 : ¬ (V.heap.size = w.heap.size + 1) := by have := BB.1; omega
  have ne3 : ¬ (V.heap.size = g0) := by have := BX.1; omega
  have hzr : w.heap.size ≤ V.heap.size := T.size
  obtain ⟨_, _, _, _, _, _, _, _, _⟩ := BA.four
  obtain ⟨_, _, _, _, _, _, _, _, _⟩ := BB.four
  obtain ⟨_, _, _, _, _, _, _, _, _⟩ := BX.four
  go_upto_region 4 with fail
  go_cut [8, 9] (fun s8 s9 wx => ∃ g, s8 = .pointer (some ⟨g, 0, none⟩) ∧ s9 = .bool b2 ∧ ¬ g = w.heap.size ∧ ¬ g = w.heap.size + 1 ∧ ¬ g = g0 ∧ Below w.heap.size w wx ∧ Box wx w.heap.size [.int .i64 m.a, .int .i64 m.b, .int .i64 m.c, .int .i64 m.d] ∧ Box wx (w.heap.size + 1) [.int .i64 n.a, .int .i64 n.b, .int .i64 n.c, .int .i64 n.d] ∧ Box wx g0 [.int .i64 x.a, .int .i64 x.b, .int .i64 x.c, .int .i64 x.d] ∧ Box wx g [.int .i64 y.a, .int .i64 y.b, .int .i64 y.c, .int .i64 y.d])
  case first =>
    go_region_held3 (fun w' => w'.cell? ⟨w.heap.size, 0, none⟩ = some (.int .i64 m.a) ∧ w'.cell? ⟨w.heap.size, 1, none⟩ = some (.int .i64 m.b) ∧ w'.cell? ⟨w.heap.size, 2, none⟩ = some (.int .i64 m.c) ∧ w'.cell? ⟨w.heap.size, 3, none⟩ = some (.int .i64 m.d) ∧ w'.cell? ⟨w.heap.size + 1, 0, none⟩ = some (.int .i64 n.a) ∧ w'.cell? ⟨w.heap.size + 1, 1, none⟩ = some (.int .i64 n.b) ∧ w'.cell? ⟨w.heap.size + 1, 2, none⟩ = some (.int .i64 n.c) ∧ w'.cell? ⟨w.heap.size + 1, 3, none⟩ = some (.int .i64 n.d)) (go_keep)
      (first
      | (go_at_call 44; refine (HI.out _).mono ?_; rintro e w1 ⟨rfl, hb1⟩; have T := (by first | exact own_trans T hb1 | exact own_trans (own_drew T) hb1 | exact own_trans (own_drew (own_alloc T _)) hb1 | exact own_trans (own_alloc T _) hb1 | exact own_trans (own_alloc (own_drew T) _) hb1 : Below w.heap.size w w1); have BA := Box.below (by first | exact BA | exact Box.drew BA | exact Box.drew (Box.alloc BA _) | exact Box.alloc BA _ | exact Box.alloc (Box.drew BA) _) hb1; obtain ⟨_, _, _, _, _, _, _, _, _⟩ := BA.four; have BB := Box.below (by first | exact BB | exact Box.drew BB | exact Box.drew (Box.alloc BB _) | exact Box.alloc BB _ | exact Box.alloc (Box.drew BB) _) hb1; obtain ⟨_, _, _, _, _, _, _, _, _⟩ := BB.four; have BX := Box.below (by first | exact BX | exact Box.drew BX | exact Box.drew (Box.alloc BX _) | exact Box.alloc BX _ | exact Box.alloc (Box.drew BX) _) hb1; obtain ⟨_, _, _, _, _, _, _, _, _⟩ := BX.four; have ne1 : ¬ (w1.heap.size = w.heap.size) := (by have := BA.1; omega); have ne2 : ¬ (w1.heap.size = w.heap.size + 1) := (by have := BB.1; omega); have ne3 : ¬ (w1.heap.size = g0) := (by have := BX.1; omega); have hz1 : w.heap.size ≤ w1.heap.size := T.size; first | (have BZ := Box.below (by first | exact BZ | exact Box.drew BZ) hb1; obtain ⟨_, _, _, _, _, _, _, _, _⟩ := BZ.four) | (have BZ : Box w1 V.heap.size [.int .i64 0, .int .i64 0, .int .i64 0, .int .i64 0] := Box.below (by first | exact Box.new _ _ _ | exact Box.drew (Box.new _ _ _) | exact Box.newAt rfl _ _) hb1; obtain ⟨_, _, _, _, _, _, _, _, _⟩ := BZ.four) | (have BZ : Box w1 _ [.int .i64 0, .int .i64 0, .int .i64 0, .int .i64 0] := Box.below (by first | exact Box.new _ _ _ | exact Box.drew (Box.new _ _ _)) hb1; obtain ⟨_, _, _, _, _, _, _, _, _⟩ := BZ.four) | skip)
      | (go_at_call 43; refine (HQ.out _).mono ?_; rintro e w1 ⟨rfl, hb1⟩; have T := (by first | exact own_trans T hb1 | exact own_trans (own_drew T) hb1 | exact own_trans (own_drew (own_alloc T _)) hb1 | exact own_trans (own_alloc T _) hb1 | exact own_trans (own_alloc (own_drew T) _) hb1 : Below w.heap.size w w1); have BA := Box.below (by first | exact BA | exact Box.drew BA | exact Box.drew (Box.alloc BA _) | exact Box.alloc BA _ | exact Box.alloc (Box.drew BA) _) hb1; obtain ⟨_, _, _, _, _, _, _, _, _⟩ := BA.four; have BB := Box.below (by first | exact BB | exact Box.drew BB | exact Box.drew (Box.alloc BB _) | exact Box.alloc BB _ | exact Box.alloc (Box.drew BB) _) hb1; obtain ⟨_, _, _, _, _, _, _, _, _⟩ := BB.four; have BX := Box.below (by first | exact BX | exact Box.drew BX | exact Box.drew (Box.alloc BX _) | exact Box.alloc BX _ | exact Box.alloc (Box.drew BX) _) hb1; obtain ⟨_, _, _, _, _, _, _, _, _⟩ := BX.four; have ne1 : ¬ (w1.heap.size = w.heap.size) := (by have := BA.1; omega); have ne2 : ¬ (w1.heap.size = w.heap.size + 1) := (by have := BB.1; omega); have ne3 : ¬ (w1.heap.size = g0) := (by have := BX.1; omega); have hz1 : w.heap.size ≤ w1.heap.size := T.size; first | (have BZ := Box.below (by first | exact BZ | exact Box.drew BZ) hb1; obtain ⟨_, _, _, _, _, _, _, _, _⟩ := BZ.four) | (have BZ : Box w1 V.heap.size [.int .i64 0, .int .i64 0, .int .i64 0, .int .i64 0] := Box.below (by first | exact Box.new _ _ _ | exact Box.drew (Box.new _ _ _) | exact Box.newAt rfl _ _) hb1; obtain ⟨_, _, _, _, _, _, _, _, _⟩ := BZ.four) | (have BZ : Box w1 _ [.int .i64 0, .int .i64 0, .int .i64 0, .int .i64 0] := Box.below (by first | exact Box.new _ _ _ | exact Box.drew (Box.new _ _ _)) hb1; obtain ⟨_, _, _, _, _, _, _, _, _⟩ := BZ.four) | skip))
    all_goals
      go_wp2_with fail
      go_meet
      first
        | exact ⟨_, rfl, rfl, by assumption, by assumption, by assumption, own_alloc T _, BA.alloc _, BB.alloc _, BX.alloc _, Box.new _ _ _⟩
        | (refine ⟨_, rfl, rfl, by assumption, by assumption, by assumption, (((T.setCell (by first | assumption | omega) _).setCell (by first | assumption | omega) _).setCell (by first | assumption | omega) _).setCell (by first | assumption | omega) _, ?_, ?_, ?_, BZ.put4 _ _ _ _⟩
           · exact (((BA.far (Ne.symm (by assumption)) _).far (Ne.symm (by assumption)) _).far (Ne.symm (by assumption)) _).far (Ne.symm (by assumption)) _
           · exact (((BB.far (Ne.symm (by assumption)) _).far (Ne.symm (by assumption)) _).far (Ne.symm (by assumption)) _).far (Ne.symm (by assumption)) _
           · exact (((BX.far (Ne.symm (by assumption)) _).far (Ne.symm (by assumption)) _).far (Ne.symm (by assumption)) _).far (Ne.symm (by assumption)) _)
  case rest =>
    obtain ⟨g1, rfl, rfl, hg1, hg2, hg3, T, BA, BB, BX, BY⟩ := hcut
    obtain ⟨_, _, _, _, _, _, _, _, _⟩ := BA.four
    obtain ⟨_, _, _, _, _, _, _, _, _⟩ := BB.four
    obtain ⟨_, _, _, _, _, _, _, _, _⟩ := BX.four
    obtain ⟨_, _, _, _, _, _, _, _, _⟩ := BY.four
    go_wp2
    go_ret2
    exact ⟨_, rfl, Sl.nil _ _ _ (Nat.le_refl _), T⟩
end Go.Proofs.YtkeadknbdihkmaaDoor
