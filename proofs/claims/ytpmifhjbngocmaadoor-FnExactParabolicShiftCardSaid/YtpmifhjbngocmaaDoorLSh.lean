/- The walk of the law FnExactParabolicShift. -/
import Derived.Test.YtpmifhjbngocmaaDoorSh2
namespace Go.Proofs.YtpmifhjbngocmaaDoor
open Go.ChangeShapes Go.WideShapes Go.ChangeAt Go.RowKit

set_option maxHeartbeats 1000000 in
theorem implPS_no (a b c d : Int) (h : isM a b c d = false) (w : World) :
    Calls Tryd.prog 11 #[(.agg #[.int .i64 a, .int .i64 b, .int .i64 c, .int .i64 d])] w fun e w' => e = .returned (.tuple #[(.int .i64 0), (.int .i64 1)]) ∧ Below w.heap.size w w' := by
  have H := Lib.hid h
  clear h
  go_enter Tryd.func11, Tryd.ntmps11
  go_wp2_with fail
  refine (check_no a b c d 2 H.out _).mono ?_
  rintro e w1 ⟨rfl, hb1⟩
  go_wp2
  go_ret2
  exact ⟨rfl, by repeat (first | with_reducible exact own_refl _ | with_reducible assumption | with_reducible apply own_alloc | with_reducible apply own_drewN | with_reducible apply own_drew | ((with_reducible refine own_setCell ?_ ?_ _); rotate_left; focus (first | (simp; done) | (simp; omega))) | (with_reducible (refine own_trans ?_ (by assumption))))⟩
set_option maxHeartbeats 1000000 in
theorem implPS_bad (a b c d k : Int) (h : isM a b c d = true) (hk : kind a b c d = k) (hn : (k != 2) = true) (w : World) (hid : Idn w) :
    Calls Tryd.prog 11 #[(.agg #[.int .i64 a, .int .i64 b, .int .i64 c, .int .i64 d])] w fun e w' => e = .returned (.tuple #[(.int .i64 0), (.int .i64 5)]) ∧ Below w.heap.size w w' := by
  have H := Lib.hid h
  have HK := Lib.hid hk
  have HN := Lib.hid hn
  clear h hk hn
  go_enter Tryd.func11, Tryd.ntmps11
  go_wp2_with fail
  refine (check_is true k 2 a b c d H.out HK.out HN.out _ (hid.alloc _)).mono ?_
  rintro e w1 ⟨rfl, hb1⟩
  go_wp2
  go_ret2
  exact ⟨rfl, by repeat (first | with_reducible exact own_refl _ | with_reducible assumption | with_reducible apply own_alloc | with_reducible apply own_drewN | with_reducible apply own_drew | ((with_reducible refine own_setCell ?_ ?_ _); rotate_left; focus (first | (simp; done) | (simp; omega))) | (with_reducible (refine own_trans ?_ (by assumption))))⟩
set_option maxHeartbeats 1000000 in
theorem implPS_ok (a b c d r : Int) (h : isM a b c d = true) (hk : kind a b c d = 2) (hs : ∀ w : World, Calls Tryd.prog 30 #[(.agg #[.int .i64 a, .int .i64 b, .int .i64 c, .int .i64 d])] w fun e w' => e = .returned (.int .i64 r) ∧ Below w.heap.size w w') (w : World) (hid : Idn w) :
    Calls Tryd.prog 11 #[(.agg #[.int .i64 a, .int .i64 b, .int .i64 c, .int .i64 d])] w fun e w' => e = .returned (.tuple #[(.int .i64 r), (.int .i64 0)]) ∧ Below w.heap.size w w' := by
  have H := Lib.hid h
  have HK := Lib.hid hk
  have HS := Lib.hid hs
  clear h hk hs
  go_enter Tryd.func11, Tryd.ntmps11
  go_wp2_with fail
  refine (check_is false 2 2 a b c d H.out HK.out rfl _ (hid.alloc _)).mono ?_
  rintro e w1 ⟨rfl, hb1⟩
  have BA : Box w1 w.heap.size [.int .i64 a, .int .i64 b, .int .i64 c, .int .i64 d] := Box.below (Box.new _ _ _) hb1
  obtain ⟨_, _, _, _, _, _, _, _, _⟩ := BA.four
  go_wp2_with fail
  refine (HS.out _).mono ?_
  rintro e w2 ⟨rfl, hb2⟩
  go_wp2
  go_ret2
  exact ⟨rfl, by repeat (first | with_reducible exact own_refl _ | with_reducible assumption | with_reducible apply own_alloc | with_reducible apply own_drewN | with_reducible apply own_drew | ((with_reducible refine own_setCell ?_ ?_ _); rotate_left; focus (first | (simp; done) | (simp; omega))) | (with_reducible (refine own_trans ?_ (by assumption))))⟩
set_option maxHeartbeats 1000000 in
theorem specPS_no (a b c d : Int) (h : isM a b c d = false) (w : World) :
    Calls Tryd.prog 9 #[(.agg #[.int .i64 a, .int .i64 b, .int .i64 c, .int .i64 d])] w fun e w' => e = .returned (.tuple #[(.int .i64 0), (.int .i64 1)]) ∧ Below w.heap.size w w' := by
  have H := Lib.hid h
  clear h
  go_enter Tryd.func9, Tryd.ntmps9
  go_wp2_with fail
  refine (l04Kind_no a b c d 2 H.out _).mono ?_
  rintro e w1 ⟨rfl, hb1⟩
  go_wp2
  go_ret2
  exact ⟨rfl, by repeat (first | with_reducible exact own_refl _ | with_reducible assumption | with_reducible apply own_alloc | with_reducible apply own_drewN | with_reducible apply own_drew | ((with_reducible refine own_setCell ?_ ?_ _); rotate_left; focus (first | (simp; done) | (simp; omega))) | (with_reducible (refine own_trans ?_ (by assumption))))⟩
set_option maxHeartbeats 1000000 in
theorem specPS_bad (a b c d k : Int) (h : isM a b c d = true) (hk : kind a b c d = k) (hn : (k != 2) = true) (w : World) :
    Calls Tryd.prog 9 #[(.agg #[.int .i64 a, .int .i64 b, .int .i64 c, .int .i64 d])] w fun e w' => e = .returned (.tuple #[(.int .i64 0), (.int .i64 5)]) ∧ Below w.heap.size w w' := by
  have H := Lib.hid h
  have HK := Lib.hid hk
  have HN := Lib.hid hn
  clear h hk hn
  go_enter Tryd.func9, Tryd.ntmps9
  go_wp2_with fail
  refine (l04Kind_is true k 2 a b c d H.out HK.out HN.out _).mono ?_
  rintro e w1 ⟨rfl, hb1⟩
  go_wp2
  go_ret2
  exact ⟨rfl, by repeat (first | with_reducible exact own_refl _ | with_reducible assumption | with_reducible apply own_alloc | with_reducible apply own_drewN | with_reducible apply own_drew | ((with_reducible refine own_setCell ?_ ?_ _); rotate_left; focus (first | (simp; done) | (simp; omega))) | (with_reducible (refine own_trans ?_ (by assumption))))⟩
set_option maxHeartbeats 1000000 in
theorem specPS_ok (a b c d r : Int) (h : isM a b c d = true) (hk : kind a b c d = 2) (hs : ∀ w : World, Calls Tryd.prog 28 #[(.agg #[.int .i64 a, .int .i64 b, .int .i64 c, .int .i64 d])] w fun e w' => e = .returned (.int .i64 r) ∧ Below w.heap.size w w') (w : World) :
    Calls Tryd.prog 9 #[(.agg #[.int .i64 a, .int .i64 b, .int .i64 c, .int .i64 d])] w fun e w' => e = .returned (.tuple #[(.int .i64 r), (.int .i64 0)]) ∧ Below w.heap.size w w' := by
  have H := Lib.hid h
  have HK := Lib.hid hk
  have HS := Lib.hid hs
  clear h hk hs
  go_enter Tryd.func9, Tryd.ntmps9
  go_wp2_with fail
  refine (l04Kind_is false 2 2 a b c d H.out HK.out rfl _).mono ?_
  rintro e w1 ⟨rfl, hb1⟩
  have BA : Box w1 w.heap.size [.int .i64 a, .int .i64 b, .int .i64 c, .int .i64 d] := Box.below (Box.new _ _ _) hb1
  obtain ⟨_, _, _, _, _, _, _, _, _⟩ := BA.four
  go_wp2_with fail
  refine (HS.out _).mono ?_
  rintro e w2 ⟨rfl, hb2⟩
  go_wp2
  go_ret2
  exact ⟨rfl, by repeat (first | with_reducible exact own_refl _ | with_reducible assumption | with_reducible apply own_alloc | with_reducible apply own_drewN | with_reducible apply own_drew | ((with_reducible refine own_setCell ?_ ?_ _); rotate_left; focus (first | (simp; done) | (simp; omega))) | (with_reducible (refine own_trans ?_ (by assumption))))⟩
theorem sgn_neg {x : Int} (h : x < 0) : sgn x = -1 := if_pos h
theorem sgn_pos {x : Int} (h : 0 < x) : sgn x = 1 := by unfold sgn; rw [if_neg (by omega), if_pos h]
theorem gcd_bd {x y : Int} (hx : Ent x) (hy : Ent y) (h : ¬ (x = 0 ∧ y = 0)) : (Int.gcd x y : Int) ≤ 1000000000 := by
  unfold Ent at hx hy
  by_cases h0 : x = 0
  · have := Int.gcd_le_natAbs_right x (show y ≠ 0 from fun e => h ⟨h0, e⟩); omega
  · have := Int.gcd_le_natAbs_left y h0; omega
set_option maxRecDepth 100000 in
theorem lawParabolicShift_walk (a b c d : Int) (_ : I64 a) (_ : I64 b) (_ : I64 c) (_ : I64 d) (w : World) (hid : Idn w) :
    Calls Tryd.prog 3 #[(.agg #[.int .i64 a, .int .i64 b, .int .i64 c, .int .i64 d])] w fun e w' => e = .returned (.bool true) ∧ Below w.heap.size w w' := by
  rcases h : isM a b c d with _ | _
  · exact lawParabolicShift_of a b c d 0 1 (fun w => specPS_no a b c d h w) (fun w _ => implPS_no a b c d h w) w hid
  obtain ⟨ha, hb, hc, hd, hdet⟩ := isM_ent h
  by_cases hk : kind a b c d = 2
  · obtain ⟨hbc, ht⟩ := kind2 hk
    rcases (show a + d = 2 ∨ a + d = -2 by omega) with ht | ht
    · have hg3 := gcd3 hdet ht
      obtain ⟨g, hg⟩ : ∃ g : Int, (Int.gcd b c : Int) = g := ⟨_, rfl⟩
      have hg2 : (Int.gcd g (a - 1) : Int) = g := by rw [← hg, hg3]
      have hgb := gcd_bd hb hc hbc
      rw [hg] at hgb
      have hg0 : 0 ≤ g := by omega
      have hm : Mid g := by unfold Mid; omega
      rcases shift_sign hdet ht hbc with ⟨h1, h2⟩ | ⟨h1, h2⟩
      · exact lawParabolicShift_of a b c d (-g) 0 (fun w => specPS_ok a b c d _ h hk (fun w => specShift_pm a b c d g g ha hb hc hd ht hg hg2 hm (by omega) h1 w) w)
          (fun w hi => implPS_ok a b c d _ h hk (fun w => implShift_p a b c d g (-1) _ ha hb hc hd ht hg (sgn_neg h2) (by omega) (by omega) w) w hi) w hid
      · exact lawParabolicShift_of a b c d g 0 (fun w => specPS_ok a b c d _ h hk (fun w => specShift_pq a b c d g g ha hb hc hd ht hg hg2 hm (by omega) h1 w) w)
          (fun w hi => implPS_ok a b c d _ h hk (fun w => implShift_p a b c d g 1 _ ha hb hc hd ht hg (sgn_pos h2) (by omega) (by omega) w) w hi) w hid
    · have hdet' : -a * -d - -b * -c = 1 := by grind
      have ht' : -a + -d = 2 := by omega
      have hbc' : ¬ (-b = 0 ∧ -c = 0) := by omega
      have hg3 := gcd3 hdet' ht'
      obtain ⟨g, hg⟩ : ∃ g : Int, (Int.gcd (-b) (-c) : Int) = g := ⟨_, rfl⟩
      have hg2 : (Int.gcd g (-a - 1) : Int) = g := by rw [← hg, hg3]
      have hgb := gcd_bd (show Ent (-b) by unfold Ent at *; omega) (show Ent (-c) by unfold Ent at *; omega) hbc'
      rw [hg] at hgb
      have hg0 : 0 ≤ g := by omega
      have hm : Mid g := by unfold Mid; omega
      rcases shift_sign hdet' ht' hbc' with ⟨h1, h2⟩ | ⟨h1, h2⟩
      · exact lawParabolicShift_of a b c d (-g) 0 (fun w => specPS_ok a b c d _ h hk (fun w => specShift_nm a b c d g g ha hb hc hd ht hg hg2 hm (by omega) h1 w) w)
          (fun w hi => implPS_ok a b c d _ h hk (fun w => implShift_n a b c d g (-1) _ ha hb hc hd ht hg (sgn_neg h2) (by omega) (by omega) w) w hi) w hid
      · exact lawParabolicShift_of a b c d g 0 (fun w => specPS_ok a b c d _ h hk (fun w => specShift_nq a b c d g g ha hb hc hd ht hg hg2 hm (by omega) h1 w) w)
          (fun w hi => implPS_ok a b c d _ h hk (fun w => implShift_n a b c d g 1 _ ha hb hc hd ht hg (sgn_pos h2) (by omega) (by omega) w) w hi) w hid
  · have hn : (kind a b c d != 2) = true := by simpa using hk
    exact lawParabolicShift_of a b c d 0 5 (fun w => specPS_bad a b c d _ h rfl hn w) (fun w hi => implPS_bad a b c d _ h rfl hn w hi) w hid
end Go.Proofs.YtpmifhjbngocmaaDoor
