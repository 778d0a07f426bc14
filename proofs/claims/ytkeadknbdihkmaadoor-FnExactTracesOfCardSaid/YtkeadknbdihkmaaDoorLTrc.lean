/- The walk of the law FnExactTracesOf. -/
import Derived.Test.YtkeadknbdihkmaaDoorTrd
import Derived.Test.YtkeadknbdihkmaaDoorTo
import Derived.Test.YtkeadknbdihkmaaDoorSl
namespace Go.Proofs.YtkeadknbdihkmaaDoor
open Go.ChangeShapes Go.WideShapes Go.ChangeAt Go.RowKit

set_option maxHeartbeats 8000000 in
theorem lawTracesOf_of (a0 b0 c0 d0 a1 b1 c1 d1 : Int) (xs : List Int) (k : Int) (hn : xs.length ≤ 100)
    (hs : ∀ w : World, Calls Tryd.prog 17 #[(.agg #[.int .i64 a0, .int .i64 b0, .int .i64 c0, .int .i64 d0]), (.agg #[.int .i64 a1, .int .i64 b1, .int .i64 c1, .int .i64 d1])] w (RetSC xs k w))
    (hi : ∀ w : World, Idn w → Calls Tryd.prog 19 #[(.agg #[.int .i64 a0, .int .i64 b0, .int .i64 c0, .int .i64 d0]), (.agg #[.int .i64 a1, .int .i64 b1, .int .i64 c1, .int .i64 d1])] w (RetSC xs k w)) (w : World) (hid : Idn w) :
    Calls Tryd.prog 4 #[(.agg #[.int .i64 a0, .int .i64 b0, .int .i64 c0, .int .i64 d0]), (.agg #[.int .i64 a1, .int .i64 b1, .int .i64 c1, .int .i64 d1])] w fun e w' => e = .returned (.bool true) ∧ Below w.heap.size w w' := by
  have HS := Lib.hid hs
  have HI := Lib.hid hi
  clear hs hi
  go_enter Tryd.func4, Tryd.ntmps4
  go_upto_region 1 with fail
  have T : Below w.heap.size w ((w.alloc (.cells #[.int .i64 a0, .int .i64 b0, .int .i64 c0, .int .i64 d0] 31)).alloc (.cells #[.int .i64 a1, .int .i64 b1, .int .i64 c1, .int .i64 d1] 31)) := by repeat (first | with_reducible exact own_refl _ | with_reducible assumption | with_reducible apply own_alloc | with_reducible apply own_drewN | with_reducible apply own_drew | ((with_reducible refine own_setCell ?_ ?_ _); rotate_left; focus (first | (simp; done) | (simp; omega))) | (with_reducible (refine own_trans ?_ (by assumption))))
  have BA : Box ((w.alloc (.cells #[.int .i64 a0, .int .i64 b0, .int .i64 c0, .int .i64 d0] 31)).alloc (.cells #[.int .i64 a1, .int .i64 b1, .int .i64 c1, .int .i64 d1] 31)) w.heap.size [.int .i64 a0, .int .i64 b0, .int .i64 c0, .int .i64 d0] := Box.alloc (Box.new _ _ _) _
  have BB : Box ((w.alloc (.cells #[.int .i64 a0, .int .i64 b0, .int .i64 c0, .int .i64 d0] 31)).alloc (.cells #[.int .i64 a1, .int .i64 b1, .int .i64 c1, .int .i64 d1] 31)) (w.heap.size + 1) [.int .i64 a1, .int .i64 b1, .int .i64 c1, .int .i64 d1] := Box.newAt (by simp) _ _
  have z0 : w.heap.size + 2 ≤ ((w.alloc (.cells #[.int .i64 a0, .int .i64 b0, .int .i64 c0, .int .i64 d0] 31)).alloc (.cells #[.int .i64 a1, .int .i64 b1, .int .i64 c1, .int .i64 d1] 31)).heap.size := by simp
  generalize ((w.alloc (.cells #[.int .i64 a0, .int .i64 b0, .int .i64 c0, .int .i64 d0] 31)).alloc (.cells #[.int .i64 a1, .int .i64 b1, .int .i64 c1, .int .i64 d1] 31)) = W at *
  have TT : Below W.heap.size W W := Below.refl _ _
  obtain ⟨_, _, _, _, _, _, _, _, _⟩ := BA.four
  obtain ⟨_, _, _, _, _, _, _, _, _⟩ := BB.four
  go_upto_region 1 with fail
  go_cut [5, 6] (fun s5 s6 wx => s6 = (.int .i64 k) ∧ Below w.heap.size w wx ∧ Below W.heap.size W wx ∧ Box wx w.heap.size [.int .i64 a0, .int .i64 b0, .int .i64 c0, .int .i64 d0] ∧ Box wx (w.heap.size + 1) [.int .i64 a1, .int .i64 b1, .int .i64 c1, .int .i64 d1] ∧ Sl wx W.heap.size wx.heap.size s5 xs)
  case first =>
    go_region_held3 (fun w' => w'.cell? ⟨w.heap.size, 0, none⟩ = some (.int .i64 a0) ∧ w'.cell? ⟨w.heap.size, 1, none⟩ = some (.int .i64 b0) ∧ w'.cell? ⟨w.heap.size, 2, none⟩ = some (.int .i64 c0) ∧ w'.cell? ⟨w.heap.size, 3, none⟩ = some (.int .i64 d0) ∧ w'.cell? ⟨w.heap.size + 1, 0, none⟩ = some (.int .i64 a1) ∧ w'.cell? ⟨w.heap.size + 1, 1, none⟩ = some (.int .i64 b1) ∧ w'.cell? ⟨w.heap.size + 1, 2, none⟩ = some (.int .i64 c1) ∧ w'.cell? ⟨w.heap.size + 1, 3, none⟩ = some (.int .i64 d1)) (go_keep)
      (first
      | (go_at_call 18; refine (toMatrix_any _ _ _ _ _).mono ?_; rintro e w1 ⟨rfl, hb1⟩; have TT := (by first | exact own_trans TT hb1 | exact own_trans (own_drew TT) hb1 : Below W.heap.size W w1); have T := (by first | exact own_trans T hb1 | exact own_trans (own_drew T) hb1 : Below w.heap.size w w1); have BA := Box.below (by first | exact BA | exact Box.drew BA) hb1; obtain ⟨_, _, _, _, _, _, _, _, _⟩ := BA.four; have BB := Box.below (by first | exact BB | exact Box.drew BB) hb1; obtain ⟨_, _, _, _, _, _, _, _, _⟩ := BB.four)
      | (go_at_call 17; refine (HS.out _).mono ?_; rintro e w1 ⟨v0, rfl, s0, hb1⟩; have s0 := s0.weak (by first | exact TT.size | exact (own_drew TT).size); have TT := (by first | exact own_trans TT hb1 | exact own_trans (own_drew TT) hb1 : Below W.heap.size W w1); have T := (by first | exact own_trans T hb1 | exact own_trans (own_drew T) hb1 : Below w.heap.size w w1); have BA := Box.below (by first | exact BA | exact Box.drew BA) hb1; obtain ⟨_, _, _, _, _, _, _, _, _⟩ := BA.four; have BB := Box.below (by first | exact BB | exact Box.drew BB) hb1; obtain ⟨_, _, _, _, _, _, _, _, _⟩ := BB.four))
    all_goals
      go_wp2_with fail
      go_meet
      exact ⟨rfl, T, TT, BA, BB, s0⟩
  case rest s5 s6 =>
    obtain ⟨rfl, T, T1, BA, BB, s0⟩ := hcut
    have z1 := T1.size
    clear TT
    generalize wc = V at *
    have TT : Below V.heap.size V V := Below.refl _ _
    obtain ⟨_, _, _, _, _, _, _, _, _⟩ := BA.four
    obtain ⟨_, _, _, _, _, _, _, _, _⟩ := BB.four
    go_upto_region 2 with fail
    go_cut [7, 8] (fun s5 s6 wx => s6 = (.int .i64 k) ∧ Below w.heap.size w wx ∧ Below V.heap.size V wx ∧ Box wx w.heap.size [.int .i64 a0, .int .i64 b0, .int .i64 c0, .int .i64 d0] ∧ Box wx (w.heap.size + 1) [.int .i64 a1, .int .i64 b1, .int .i64 c1, .int .i64 d1] ∧ Sl wx V.heap.size wx.heap.size s5 xs)
    case first =>
      go_region_held3 (fun w' => w'.cell? ⟨w.heap.size, 0, none⟩ = some (.int .i64 a0) ∧ w'.cell? ⟨w.heap.size, 1, none⟩ = some (.int .i64 b0) ∧ w'.cell? ⟨w.heap.size, 2, none⟩ = some (.int .i64 c0) ∧ w'.cell? ⟨w.heap.size, 3, none⟩ = some (.int .i64 d0) ∧ w'.cell? ⟨w.heap.size + 1, 0, none⟩ = some (.int .i64 a1) ∧ w'.cell? ⟨w.heap.size + 1, 1, none⟩ = some (.int .i64 b1) ∧ w'.cell? ⟨w.heap.size + 1, 2, none⟩ = some (.int .i64 c1) ∧ w'.cell? ⟨w.heap.size + 1, 3, none⟩ = some (.int .i64 d1)) (go_keep)
        (first
        | (go_at_call 18; refine (toMatrix_any _ _ _ _ _).mono ?_; rintro e w1 ⟨rfl, hb1⟩; have TT := (by first | exact own_trans TT hb1 | exact own_trans (own_drew TT) hb1 : Below V.heap.size V w1); have T := (by first | exact own_trans T hb1 | exact own_trans (own_drew T) hb1 : Below w.heap.size w w1); have BA := Box.below (by first | exact BA | exact Box.drew BA) hb1; obtain ⟨_, _, _, _, _, _, _, _, _⟩ := BA.four; have BB := Box.below (by first | exact BB | exact Box.drew BB) hb1; obtain ⟨_, _, _, _, _, _, _, _, _⟩ := BB.four)
        | (go_at_call 19; refine (HI.out _ (by first | exact Rd.below hid T | exact Rd.below hid (own_drew T))).mono ?_; rintro e w1 ⟨v0, rfl, s0, hb1⟩; have s0 := s0.weak (by first | exact TT.size | exact (own_drew TT).size); have TT := (by first | exact own_trans TT hb1 | exact own_trans (own_drew TT) hb1 : Below V.heap.size V w1); have T := (by first | exact own_trans T hb1 | exact own_trans (own_drew T) hb1 : Below w.heap.size w w1); have BA := Box.below (by first | exact BA | exact Box.drew BA) hb1; obtain ⟨_, _, _, _, _, _, _, _, _⟩ := BA.four; have BB := Box.below (by first | exact BB | exact Box.drew BB) hb1; obtain ⟨_, _, _, _, _, _, _, _, _⟩ := BB.four))
      all_goals
        go_wp2_with fail
        go_meet
        exact ⟨rfl, T, TT, BA, BB, s0⟩
    case rest s7 s8 =>
      obtain ⟨rfl, T, T2, BA, BB, s1⟩ := hcut
      have s0 := s0.own T2
      have z2 := T2.size
      generalize wc = X at *
      go_wp2_with fail
      refine (eqS_same _ _ xs _ _ _ _ _ (by omega) s1 s0).mono ?_
      rintro e w5 ⟨rfl, hb5⟩
      have s0 := s0.own hb5
      have s1 := s1.own hb5
      have BA := BA.below hb5
      have BB := BB.below hb5
      have T := own_trans T hb5
      have z5 := hb5.size
      go_wp2_with fail
      refine (markS_any _ xs 1 _ _ _ (by omega) (by omega) (by omega) s1).mono ?_
      rintro e w6 ⟨rfl, s1, hb6⟩
      have s0 := s0.below hb6
      have BA := BA.low hb6 (by omega)
      have BB := BB.low hb6 (by omega)
      have T := T.trans (hb6.mono (by omega))
      go_wp2_with fail
      refine (heldS_ramp _ 1 xs.length _ _ _ (by omega) (by omega) (by omega) s1).mono ?_
      rintro e w7 ⟨rfl, rfl⟩
      clear hb5 hb6 T2 TT
      have TT : Below w6.heap.size w6 w6 := Below.refl _ _
      obtain ⟨_, _, _, _, _, _, _, _, _⟩ := BA.four
      obtain ⟨_, _, _, _, _, _, _, _, _⟩ := BB.four
      go_upto_region 13 with fail
      go_cut [11, 12] (fun s5 s6 wx => s6 = (.int .i64 k) ∧ Below w.heap.size w wx ∧ Below w6.heap.size w6 wx ∧ Box wx w.heap.size [.int .i64 a0, .int .i64 b0, .int .i64 c0, .int .i64 d0] ∧ Box wx (w.heap.size + 1) [.int .i64 a1, .int .i64 b1, .int .i64 c1, .int .i64 d1] ∧ Sl wx w6.heap.size wx.heap.size s5 xs)
      case first =>
        go_region_held3 (fun w' => w'.cell? ⟨w.heap.size, 0, none⟩ = some (.int .i64 a0) ∧ w'.cell? ⟨w.heap.size, 1, none⟩ = some (.int .i64 b0) ∧ w'.cell? ⟨w.heap.size, 2, none⟩ = some (.int .i64 c0) ∧ w'.cell? ⟨w.heap.size, 3, none⟩ = some (.int .i64 d0) ∧ w'.cell? ⟨w.heap.size + 1, 0, none⟩ = some (.int .i64 a1) ∧ w'.cell? ⟨w.heap.size + 1, 1, none⟩ = some (.int .i64 b1) ∧ w'.cell? ⟨w.heap.size + 1, 2, none⟩ = some (.int .i64 c1) ∧ w'.cell? ⟨w.heap.size + 1, 3, none⟩ = some (.int .i64 d1)) (go_keep)
          (first
          | (go_at_call 18; refine (toMatrix_any _ _ _ _ _).mono ?_; rintro e w1 ⟨rfl, hb1⟩; have TT := (by first | exact own_trans TT hb1 | exact own_trans (own_drew TT) hb1 : Below w6.heap.size w6 w1); have T := (by first | exact own_trans T hb1 | exact own_trans (own_drew T) hb1 : Below w.heap.size w w1); have BA := Box.below (by first | exact BA | exact Box.drew BA) hb1; obtain ⟨_, _, _, _, _, _, _, _, _⟩ := BA.four; have BB := Box.below (by first | exact BB | exact Box.drew BB) hb1; obtain ⟨_, _, _, _, _, _, _, _, _⟩ := BB.four)
          | (go_at_call 19; refine (HI.out _ (by first | exact Rd.below hid T | exact Rd.below hid (own_drew T))).mono ?_; rintro e w1 ⟨v0, rfl, s0, hb1⟩; have s0 := s0.weak (by first | exact TT.size | exact (own_drew TT).size); have TT := (by first | exact own_trans TT hb1 | exact own_trans (own_drew TT) hb1 : Below w6.heap.size w6 w1); have T := (by first | exact own_trans T hb1 | exact own_trans (own_drew T) hb1 : Below w.heap.size w w1); have BA := Box.below (by first | exact BA | exact Box.drew BA) hb1; obtain ⟨_, _, _, _, _, _, _, _, _⟩ := BA.four; have BB := Box.below (by first | exact BB | exact Box.drew BB) hb1; obtain ⟨_, _, _, _, _, _, _, _, _⟩ := BB.four))
        all_goals
          go_wp2_with fail
          go_meet
          exact ⟨rfl, T, TT, BA, BB, s0⟩
      case rest s9 s10 =>
        obtain ⟨rfl, T, T3, BA, BB, s2⟩ := hcut
        have s0 := s0.own T3
        have s1 := s1.own T3
        go_wp2_with fail
        refine (eqS_same _ _ xs _ _ _ _ _ (by omega) s2 s0).mono ?_
        rintro e w10 ⟨rfl, hb10⟩
        have s1 := s1.own hb10
        have T := own_trans T hb10
        go_wp2_with fail
        refine (heldS_ramp _ 1 xs.length _ _ _ (by omega) (by omega) (by omega) s1).mono ?_
        rintro e w11 ⟨rfl, rfl⟩
        go_wp2
        go_ret
        exact ⟨rfl, T⟩
theorem lawTracesOf_walk (a b c d p q r s : Int) (_ : I64 a) (_ : I64 b) (_ : I64 c) (_ : I64 d) (_ : I64 p) (_ : I64 q) (_ : I64 r) (_ : I64 s) (w : World) (hid : Idn w) :
    Calls Tryd.prog 4 #[(.agg #[.int .i64 a, .int .i64 b, .int .i64 c, .int .i64 d]), (.agg #[.int .i64 p, .int .i64 q, .int .i64 r, .int .i64 s])] w fun e w' => e = .returned (.bool true) ∧ Below w.heap.size w w' := by
  obtain ⟨m, hm⟩ : ∃ m : Mat, m = ⟨a, b, c, d⟩ := ⟨_, rfl⟩
  obtain ⟨n, hn⟩ : ∃ n : Mat, n = ⟨p, q, r, s⟩ := ⟨_, rfl⟩
  have e1 : a = m.a ∧ b = m.b ∧ c = m.c ∧ d = m.d := by subst hm; exact ⟨rfl, rfl, rfl, rfl⟩
  have e2 : p = n.a ∧ q = n.b ∧ r = n.c ∧ s = n.d := by subst hn; exact ⟨rfl, rfl, rfl, rfl⟩
  clear hm hn
  obtain ⟨rfl, rfl, rfl, rfl⟩ := e1
  obtain ⟨rfl, rfl, rfl, rfl⟩ := e2
  rcases h : m.is with _ | _
  · exact lawTracesOf_of _ _ _ _ _ _ _ _ [] 1 (by simp) (fun w => specTrc_bad1 m n h w) (fun w hid => implTrc_one m n _ 1 (PA_two_bad (.inl h)) (by omega) w hid) w hid
  rcases h2 : n.is with _ | _
  · exact lawTracesOf_of _ _ _ _ _ _ _ _ [] 1 (by simp) (fun w => specTrc_bad2 m n h h2 w) (fun w hid => implTrc_one m n _ 1 (PA_two_bad (.inr h2)) (by omega) w hid) w hid
  obtain ⟨y, b2, hy⟩ := TM.any m n.inv
  rcases h3 : (m.mul n).ok with _ | _
  · exact lawTracesOf_of _ _ _ _ _ _ _ _ [] 3 (by simp) (fun w => specTrc_one m n Mat.zero y b2 h h2 (.inr ⟨h3, rfl, rfl⟩) hy w) (fun w hid => implTrc_one m n _ 3 (PA_two_no h h2 h3) (by omega) w hid) w hid
  have em : Ent m.a ∧ Ent m.d := ⟨(Mat.is_ent h).1, (Mat.is_ent h).2.2.2.1⟩
  have en : Ent n.a ∧ Ent n.d := ⟨(Mat.is_ent h2).1, (Mat.is_ent h2).2.2.2.1⟩
  have ex : Ent (m.mul n).a ∧ Ent (m.mul n).d := ⟨(Mat.ok_ent h3).1, (Mat.ok_ent h3).2.2.2⟩
  have hi := Mat.inv_is n h2
  rcases h4 : (m.mul n.inv).ok with _ | _
  · have ez : Ent Mat.zero.a ∧ Ent Mat.zero.d := by constructor <;> decide
    exact lawTracesOf_of _ _ _ _ _ _ _ _ [] 3 (by simp) (fun w => specTrc_two m n (m.mul n) Mat.zero h h2 (.inl ⟨h3, rfl, rfl⟩) (.inr ⟨h4, rfl, rfl⟩) w) (fun w hid => implTrc_two m n (m.mul n) Mat.zero 3 (by omega) em en ex ez (PA_two h h2 h3) (PA_two_no h hi h4) w hid) w hid
  · have ey : Ent (m.mul n.inv).a ∧ Ent (m.mul n.inv).d := ⟨(Mat.ok_ent h4).1, (Mat.ok_ent h4).2.2.2⟩
    exact lawTracesOf_of _ _ _ _ _ _ _ _ _ 0 (by simp) (fun w => specTrc_yes m n (m.mul n) (m.mul n.inv) h h2 ex ey (.inl ⟨h3, rfl, rfl⟩) (.inl ⟨h4, rfl, rfl⟩) w) (fun w hid => implTrc_yes m n (m.mul n) (m.mul n.inv) em en ex ey (PA_two h h2 h3) (PA_two h hi h4) w hid) w hid
end Go.Proofs.YtkeadknbdihkmaaDoor
