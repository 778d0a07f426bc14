/- The shift: contracts of its parts. -/
import Derived.Test.YtpmifhjbngocmaaDoorSh
namespace Go.Proofs.YtpmifhjbngocmaaDoor
open Go.ChangeShapes Go.WideShapes Go.ChangeAt Go.RowKit

theorem signOf_to (z x s : Int) (hs : sgn x = s) (hz : z = x) (w : World) :
    Calls Tryd.prog 63 #[(.int .i64 z)] w fun e w' => e = .returned (.int .i64 s) ∧ w = w' := hz ▸ hs ▸ signOf_any x w
theorem l01Gcd_to (g z x y : Int) (hg : (Int.gcd x y : Int) = g) (hz : z = y) (hx : Mid x) (hy : Mid y) (w : World) :
    Calls Tryd.prog 58 #[(.int .i64 x), (.int .i64 z)] w fun e w' => e = .returned (.int .i64 g) ∧ w = w' := by subst hz; exact hg ▸ l01Gcd_any x z hx hy w
set_option maxRecDepth 100000 in
set_option maxHeartbeats 2000000 in
theorem implShift_p (a b c d g s r : Int) (ha : Ent a) (hb : Ent b) (hc : Ent c) (hd : Ent d) (ht : a + d = 2) (hg : (Int.gcd (b) (c) : Int) = g) (hs : sgn (b - c) = s) (hr : g * s = r) (hrb : -4000000000000000000 ≤ r ∧ r ≤ 4000000000000000000) (w : World) :
    Calls Tryd.prog 30 #[(.agg #[.int .i64 a, .int .i64 b, .int .i64 c, .int .i64 d])] w fun e w' => e = .returned (.int .i64 r) ∧ Below w.heap.size w w' := by
  have HE := Lib.hid (show Ent a ∧ Ent b ∧ Ent c ∧ Ent d from ⟨ha, hb, hc, hd⟩)
  have HT := Lib.hid ht
  have HG := Lib.hid hg
  have HS := Lib.hid hs
  have mb : Mid (b) := by unfold Ent at hb; unfold Mid; omega
  have mc : Mid (c) := by unfold Ent at hc; unfold Mid; omega
  have HMB := Lib.hid mb
  have HMC := Lib.hid mc
  obtain ⟨_, _⟩ := hb
  obtain ⟨_, _⟩ := hc
  obtain ⟨_, _⟩ := hrb
  have hw : IntKind.i64.wrap (b - c) = b - c := IntWalk.i64_in _ (by omega)
  have hw2 : IntKind.i64.wrap (g * s) = r := by rw [hr]; exact IntWalk.i64_in _ (by omega)
  clear hg hs mb mc ht hr
  go_enter Tryd.func30, Tryd.ntmps30
  go_wp2_with fail
  refine (traceOf_ent a b c d (2) HT.out HE.out.1 HE.out.2.2.2 _).mono ?_
  rintro e w1 ⟨rfl, hb1⟩
  have BA : Box w1 w.heap.size [.int .i64 a, .int .i64 b, .int .i64 c, .int .i64 d] := Box.below (Box.new _ _ _) hb1
  have T : Below w.heap.size w w1 := own_trans (own_alloc (own_refl _) _) hb1
  obtain ⟨_, _, _, _, _, _, _, _, _⟩ := BA.four
  go_upto_region 3 with fail
  go_cut [2] (fun s wx => s = (.int .i64 r) ∧ Below w.heap.size w wx)
  case first =>
    go_region_held3 (fun w' => w'.cell? ⟨w.heap.size, 1, none⟩ = some (.int .i64 b) ∧ w'.cell? ⟨w.heap.size, 2, none⟩ = some (.int .i64 c)) (go_keep)
      (first
        | (go_at_call 62; refine (commonDivisor_is g _ _ HG.out HMB.out HMC.out _).mono ?_; rintro e w2 ⟨rfl, hb2⟩; have T := (by first | exact own_trans T hb2 | exact own_trans (own_drew T) hb2 : Below w.heap.size w w2); have BA := Box.below (by first | exact BA | exact Box.drew BA) hb2; obtain ⟨_, _, _, _, _, _, _, _, _⟩ := BA.four)
        | (go_at_call 63; refine (signOf_to _ _ s HS.out (by first | rfl | exact hw | exact (IntWalk.i64_in _ (by omega)).trans (by omega)) _).mono ?_; rintro e w3 ⟨rfl, rfl⟩))
    all_goals
      go_wp2_with fail
      go_meet
      exact ⟨rfl, T⟩
  case rest =>
    obtain ⟨rfl, T⟩ := hcut
    go_wp2
    go_ret
    exact ⟨rfl, T⟩
set_option maxRecDepth 100000 in
set_option maxHeartbeats 2000000 in
theorem implShift_n (a b c d g s r : Int) (ha : Ent a) (hb : Ent b) (hc : Ent c) (hd : Ent d) (ht : a + d = -2) (hg : (Int.gcd (-b) (-c) : Int) = g) (hs : sgn (-b - -c) = s) (hr : g * s = r) (hrb : -4000000000000000000 ≤ r ∧ r ≤ 4000000000000000000) (w : World) :
    Calls Tryd.prog 30 #[(.agg #[.int .i64 a, .int .i64 b, .int .i64 c, .int .i64 d])] w fun e w' => e = .returned (.int .i64 r) ∧ Below w.heap.size w w' := by
  have HE := Lib.hid (show Ent a ∧ Ent b ∧ Ent c ∧ Ent d from ⟨ha, hb, hc, hd⟩)
  have HT := Lib.hid ht
  have HG := Lib.hid hg
  have HS := Lib.hid hs
  have mb : Mid (-b) := by unfold Ent at hb; unfold Mid; omega
  have mc : Mid (-c) := by unfold Ent at hc; unfold Mid; omega
  have HMB := Lib.hid mb
  have HMC := Lib.hid mc
  obtain ⟨_, _⟩ := hb
  obtain ⟨_, _⟩ := hc
  obtain ⟨_, _⟩ := hrb
  have hw : IntKind.i64.wrap (-b - -c) = -b - -c := IntWalk.i64_in _ (by omega)
  have hw2 : IntKind.i64.wrap (g * s) = r := by rw [hr]; exact IntWalk.i64_in _ (by omega)
  clear hg hs mb mc ht hr
  go_enter Tryd.func30, Tryd.ntmps30
  go_wp2_with fail
  refine (traceOf_ent a b c d (-2) HT.out HE.out.1 HE.out.2.2.2 _).mono ?_
  rintro e w1 ⟨rfl, hb1⟩
  have BA : Box w1 w.heap.size [.int .i64 a, .int .i64 b, .int .i64 c, .int .i64 d] := Box.below (Box.new _ _ _) hb1
  have T : Below w.heap.size w w1 := own_trans (own_alloc (own_refl _) _) hb1
  obtain ⟨_, _, _, _, _, _, _, _, _⟩ := BA.four
  go_wp2_with fail
  refine (implNeg_ent a b c d HE.out.1 HE.out.2.1 HE.out.2.2.1 HE.out.2.2.2 _).mono ?_
  rintro e w2 ⟨rfl, hb2⟩
  have BA2 := BA.below hb2
  have T2 := own_trans T hb2
  obtain ⟨_, _, _, _, _, _, _, _, _⟩ := BA2.four
  go_upto_region 3 with fail
  have BA := BA2.put4 (.int .i64 (-a)) (.int .i64 (-b)) (.int .i64 (-c)) (.int .i64 (-d))
  have T : Below w.heap.size w ((((w2.setCell ⟨w.heap.size, 0, none⟩ (.int .i64 (-a))).setCell ⟨w.heap.size, 1, none⟩ (.int .i64 (-b))).setCell ⟨w.heap.size, 2, none⟩ (.int .i64 (-c))).setCell ⟨w.heap.size, 3, none⟩ (.int .i64 (-d))) := by repeat (first | with_reducible exact own_refl _ | with_reducible assumption | with_reducible apply own_alloc | with_reducible apply own_drewN | with_reducible apply own_drew | ((with_reducible refine own_setCell ?_ ?_ _); rotate_left; focus (first | (simp; done) | (simp; omega))) | (with_reducible (refine own_trans ?_ (by assumption))))
  generalize ((((w2.setCell ⟨w.heap.size, 0, none⟩ (.int .i64 (-a))).setCell ⟨w.heap.size, 1, none⟩ (.int .i64 (-b))).setCell ⟨w.heap.size, 2, none⟩ (.int .i64 (-c))).setCell ⟨w.heap.size, 3, none⟩ (.int .i64 (-d))) = wx at BA T ⊢
  clear BA2 T2 hb2 hb1
  obtain ⟨_, _, _, _, _, _, _, _, _⟩ := BA.four
  go_cut [2] (fun s wx => s = (.int .i64 r) ∧ Below w.heap.size w wx)
  case first =>
    go_region_held3 (fun w' => w'.cell? ⟨w.heap.size, 1, none⟩ = some (.int .i64 (-b)) ∧ w'.cell? ⟨w.heap.size, 2, none⟩ = some (.int .i64 (-c))) (go_keep)
      (first
        | (go_at_call 62; refine (commonDivisor_is g _ _ HG.out HMB.out HMC.out _).mono ?_; rintro e w2 ⟨rfl, hb2⟩; have T := (by first | exact own_trans T hb2 | exact own_trans (own_drew T) hb2 : Below w.heap.size w w2); have BA := Box.below (by first | exact BA | exact Box.drew BA) hb2; obtain ⟨_, _, _, _, _, _, _, _, _⟩ := BA.four)
        | (go_at_call 63; refine (signOf_to _ _ s HS.out (by first | rfl | exact hw | exact (IntWalk.i64_in _ (by omega)).trans (by omega)) _).mono ?_; rintro e w3 ⟨rfl, rfl⟩))
    all_goals
      go_wp2_with fail
      go_meet
      exact ⟨rfl, T⟩
  case rest =>
    obtain ⟨rfl, T⟩ := hcut
    go_wp2
    go_ret
    exact ⟨rfl, T⟩
set_option maxRecDepth 100000 in
set_option maxHeartbeats 2000000 in
theorem specShift_pq (a b c d g0 g : Int) (ha : Ent a) (hb : Ent b) (hc : Ent c) (hd : Ent d) (ht : a + d = 2) (hg0 : (Int.gcd (b) (c) : Int) = g0) (hg : (Int.gcd g0 (a - 1) : Int) = g) (hm : Mid g0) (hgb : -4000000000000000000 ≤ g ∧ g ≤ 4000000000000000000) (hs : ¬ (b < 0 ∨ 0 < c)) (w : World) :
    Calls Tryd.prog 28 #[(.agg #[.int .i64 a, .int .i64 b, .int .i64 c, .int .i64 d])] w fun e w' => e = .returned (.int .i64 g) ∧ Below w.heap.size w w' := by
  have HE := Lib.hid (show Ent a ∧ Ent b ∧ Ent c ∧ Ent d from ⟨ha, hb, hc, hd⟩)
  have HT := Lib.hid ht
  have HG0 := Lib.hid hg0
  have HG := Lib.hid hg
  have HM := Lib.hid hm
  have mb : Mid (b) := by unfold Ent at hb; unfold Mid; omega
  have mc : Mid (c) := by unfold Ent at hc; unfold Mid; omega
  have ma : Mid (a - 1) := by unfold Ent at ha; unfold Mid; omega
  have HMB := Lib.hid mb
  have HMC := Lib.hid mc
  have HMA := Lib.hid ma
  have HC := Lib.hid hs
  obtain ⟨_, _⟩ := ha
  obtain ⟨_, _⟩ := hgb
  have hw : IntKind.i64.wrap (a - 1) = a - 1 := IntWalk.i64_in _ (by omega)
  clear hg hg0 hs mb mc ma hm ht
  go_enter Tryd.func28, Tryd.ntmps28
  go_wp2_with fail
  refine (l01Trace_is a b c d (2) HT.out HE.out.1 HE.out.2.2.2 _).mono ?_
  rintro e w1 ⟨rfl, hb1⟩
  have BA : Box w1 w.heap.size [.int .i64 a, .int .i64 b, .int .i64 c, .int .i64 d] := Box.below (Box.new _ _ _) hb1
  have T : Below w.heap.size w w1 := own_trans (own_alloc (own_refl _) _) hb1
  obtain ⟨_, _, _, _, _, _, _, _, _⟩ := BA.four
  go_upto_region 3 with fail
  go_cut [3] (fun s wx => s = (.int .i64 g) ∧ Below w.heap.size w wx ∧ Box wx w.heap.size [.int .i64 a, .int .i64 b, .int .i64 c, .int .i64 d])
  case first =>
    go_region_held3 (fun w' => w'.cell? ⟨w.heap.size, 0, none⟩ = some (.int .i64 a) ∧ w'.cell? ⟨w.heap.size, 1, none⟩ = some (.int .i64 b) ∧ w'.cell? ⟨w.heap.size, 2, none⟩ = some (.int .i64 c)) (go_keep)
      (first
        | (have G0 := G1; go_at_call 58; refine (l01Gcd_to g _ g0 _ HG.out (by first | rfl | exact hw | exact (IntWalk.i64_in _ (by omega)).trans (by omega)) HM.out HMA.out _).mono ?_; rintro e w3 ⟨rfl, rfl⟩)
        | (go_at_call 58; refine (l01Gcd_is g0 _ _ HG0.out HMB.out HMC.out _).mono ?_; rintro e w2 ⟨rfl, rfl⟩; have G1 : True := trivial))
    all_goals
      go_wp2_with fail
      go_meet
      exact ⟨rfl, by first | exact T | exact own_drew T | exact below_drewN' T _, by first | exact BA | exact BA.drew | exact BA.drewN _⟩
  case rest =>
    obtain ⟨rfl, T, BA⟩ := hcut
    obtain ⟨_, _, _, _, _, _, _, _, _⟩ := BA.four
    have hs := HC.out
    have h1 : ¬ b < 0 := fun h => hs (.inl h)
    have h2 : ¬ 0 < c := fun h => hs (.inr h)
    go_wp2
    go_ret
    exact ⟨rfl, T⟩
set_option maxRecDepth 100000 in
set_option maxHeartbeats 2000000 in
theorem specShift_pm (a b c d g0 g : Int) (ha : Ent a) (hb : Ent b) (hc : Ent c) (hd : Ent d) (ht : a + d = 2) (hg0 : (Int.gcd (b) (c) : Int) = g0) (hg : (Int.gcd g0 (a - 1) : Int) = g) (hm : Mid g0) (hgb : -4000000000000000000 ≤ g ∧ g ≤ 4000000000000000000) (hs : (b < 0 ∨ 0 < c)) (w : World) :
    Calls Tryd.prog 28 #[(.agg #[.int .i64 a, .int .i64 b, .int .i64 c, .int .i64 d])] w fun e w' => e = .returned (.int .i64 (-g)) ∧ Below w.heap.size w w' := by
  have HE := Lib.hid (show Ent a ∧ Ent b ∧ Ent c ∧ Ent d from ⟨ha, hb, hc, hd⟩)
  have HT := Lib.hid ht
  have HG0 := Lib.hid hg0
  have HG := Lib.hid hg
  have HM := Lib.hid hm
  have mb : Mid (b) := by unfold Ent at hb; unfold Mid; omega
  have mc : Mid (c) := by unfold Ent at hc; unfold Mid; omega
  have ma : Mid (a - 1) := by unfold Ent at ha; unfold Mid; omega
  have HMB := Lib.hid mb
  have HMC := Lib.hid mc
  have HMA := Lib.hid ma
  have HC := Lib.hid hs
  obtain ⟨_, _⟩ := ha
  obtain ⟨_, _⟩ := hgb
  have hw : IntKind.i64.wrap (a - 1) = a - 1 := IntWalk.i64_in _ (by omega)
  clear hg hg0 hs mb mc ma hm ht
  go_enter Tryd.func28, Tryd.ntmps28
  go_wp2_with fail
  refine (l01Trace_is a b c d (2) HT.out HE.out.1 HE.out.2.2.2 _).mono ?_
  rintro e w1 ⟨rfl, hb1⟩
  have BA : Box w1 w.heap.size [.int .i64 a, .int .i64 b, .int .i64 c, .int .i64 d] := Box.below (Box.new _ _ _) hb1
  have T : Below w.heap.size w w1 := own_trans (own_alloc (own_refl _) _) hb1
  obtain ⟨_, _, _, _, _, _, _, _, _⟩ := BA.four
  go_upto_region 3 with fail
  go_cut [3] (fun s wx => s = (.int .i64 g) ∧ Below w.heap.size w wx ∧ Box wx w.heap.size [.int .i64 a, .int .i64 b, .int .i64 c, .int .i64 d])
  case first =>
    go_region_held3 (fun w' => w'.cell? ⟨w.heap.size, 0, none⟩ = some (.int .i64 a) ∧ w'.cell? ⟨w.heap.size, 1, none⟩ = some (.int .i64 b) ∧ w'.cell? ⟨w.heap.size, 2, none⟩ = some (.int .i64 c)) (go_keep)
      (first
        | (have G0 := G1; go_at_call 58; refine (l01Gcd_to g _ g0 _ HG.out (by first | rfl | exact hw | exact (IntWalk.i64_in _ (by omega)).trans (by omega)) HM.out HMA.out _).mono ?_; rintro e w3 ⟨rfl, rfl⟩)
        | (go_at_call 58; refine (l01Gcd_is g0 _ _ HG0.out HMB.out HMC.out _).mono ?_; rintro e w2 ⟨rfl, rfl⟩; have G1 : True := trivial))
    all_goals
      go_wp2_with fail
      go_meet
      exact ⟨rfl, by first | exact T | exact own_drew T | exact below_drewN' T _, by first | exact BA | exact BA.drew | exact BA.drewN _⟩
  case rest =>
    obtain ⟨rfl, T, BA⟩ := hcut
    obtain ⟨_, _, _, _, _, _, _, _, _⟩ := BA.four
    have hs := HC.out
    by_cases h1 : b < 0
    · go_wp2
      go_ret
      exact ⟨rfl, T⟩
    · have h2 : 0 < c := by omega
      go_wp2
      go_ret
      exact ⟨rfl, T⟩
set_option maxRecDepth 100000 in
set_option maxHeartbeats 2000000 in
theorem specShift_nq (a b c d g0 g : Int) (ha : Ent a) (hb : Ent b) (hc : Ent c) (hd : Ent d) (ht : a + d = -2) (hg0 : (Int.gcd (-b) (-c) : Int) = g0) (hg : (Int.gcd g0 (-a - 1) : Int) = g) (hm : Mid g0) (hgb : -4000000000000000000 ≤ g ∧ g ≤ 4000000000000000000) (hs : ¬ (-b < 0 ∨ 0 < -c)) (w : World) :
    Calls Tryd.prog 28 #[(.agg #[.int .i64 a, .int .i64 b, .int .i64 c, .int .i64 d])] w fun e w' => e = .returned (.int .i64 g) ∧ Below w.heap.size w w' := by
  have HE := Lib.hid (show Ent a ∧ Ent b ∧ Ent c ∧ Ent d from ⟨ha, hb, hc, hd⟩)
  have HT := Lib.hid ht
  have HG0 := Lib.hid hg0
  have HG := Lib.hid hg
  have HM := Lib.hid hm
  have mb : Mid (-b) := by unfold Ent at hb; unfold Mid; omega
  have mc : Mid (-c) := by unfold Ent at hc; unfold Mid; omega
  have ma : Mid (-a - 1) := by unfold Ent at ha; unfold Mid; omega
  have HMB := Lib.hid mb
  have HMC := Lib.hid mc
  have HMA := Lib.hid ma
  have HC := Lib.hid hs
  obtain ⟨_, _⟩ := ha
  obtain ⟨_, _⟩ := hgb
  have hw : IntKind.i64.wrap (-a - 1) = -a - 1 := IntWalk.i64_in _ (by omega)
  clear hg hg0 hs mb mc ma hm ht
  go_enter Tryd.func28, Tryd.ntmps28
  go_wp2_with fail
  refine (l01Trace_is a b c d (-2) HT.out HE.out.1 HE.out.2.2.2 _).mono ?_
  rintro e w1 ⟨rfl, hb1⟩
  have BA : Box w1 w.heap.size [.int .i64 a, .int .i64 b, .int .i64 c, .int .i64 d] := Box.below (Box.new _ _ _) hb1
  have T : Below w.heap.size w w1 := own_trans (own_alloc (own_refl _) _) hb1
  obtain ⟨_, _, _, _, _, _, _, _, _⟩ := BA.four
  go_wp2_with fail
  refine (specNeg_ent a b c d HE.out.1 HE.out.2.1 HE.out.2.2.1 HE.out.2.2.2 _).mono ?_
  rintro e w2 ⟨rfl, hb2⟩
  have BA2 := BA.below hb2
  have T2 := own_trans T hb2
  obtain ⟨_, _, _, _, _, _, _, _, _⟩ := BA2.four
  go_upto_region 3 with fail
  have BA := BA2.put4 (.int .i64 (-a)) (.int .i64 (-b)) (.int .i64 (-c)) (.int .i64 (-d))
  have T : Below w.heap.size w ((((w2.setCell ⟨w.heap.size, 0, none⟩ (.int .i64 (-a))).setCell ⟨w.heap.size, 1, none⟩ (.int .i64 (-b))).setCell ⟨w.heap.size, 2, none⟩ (.int .i64 (-c))).setCell ⟨w.heap.size, 3, none⟩ (.int .i64 (-d))) := by repeat (first | with_reducible exact own_refl _ | with_reducible assumption | with_reducible apply own_alloc | with_reducible apply own_drewN | with_reducible apply own_drew | ((with_reducible refine own_setCell ?_ ?_ _); rotate_left; focus (first | (simp; done) | (simp; omega))) | (with_reducible (refine own_trans ?_ (by assumption))))
  generalize ((((w2.setCell ⟨w.heap.size, 0, none⟩ (.int .i64 (-a))).setCell ⟨w.heap.size, 1, none⟩ (.int .i64 (-b))).setCell ⟨w.heap.size, 2, none⟩ (.int .i64 (-c))).setCell ⟨w.heap.size, 3, none⟩ (.int .i64 (-d))) = wx at BA T ⊢
  clear BA2 T2 hb2 hb1
  obtain ⟨_, _, _, _, _, _, _, _, _⟩ := BA.four
  go_cut [3] (fun s wx => s = (.int .i64 g) ∧ Below w.heap.size w wx ∧ Box wx w.heap.size [.int .i64 (-a), .int .i64 (-b), .int .i64 (-c), .int .i64 (-d)])
  case first =>
    go_region_held3 (fun w' => w'.cell? ⟨w.heap.size, 0, none⟩ = some (.int .i64 (-a)) ∧ w'.cell? ⟨w.heap.size, 1, none⟩ = some (.int .i64 (-b)) ∧ w'.cell? ⟨w.heap.size, 2, none⟩ = some (.int .i64 (-c))) (go_keep)
      (first
        | (have G0 := G1; go_at_call 58; refine (l01Gcd_to g _ g0 _ HG.out (by first | rfl | exact hw | exact (IntWalk.i64_in _ (by omega)).trans (by omega)) HM.out HMA.out _).mono ?_; rintro e w3 ⟨rfl, rfl⟩)
        | (go_at_call 58; refine (l01Gcd_is g0 _ _ HG0.out HMB.out HMC.out _).mono ?_; rintro e w2 ⟨rfl, rfl⟩; have G1 : True := trivial))
    all_goals
      go_wp2_with fail
      go_meet
      exact ⟨rfl, by first | exact T | exact own_drew T | exact below_drewN' T _, by first | exact BA | exact BA.drew | exact BA.drewN _⟩
  case rest =>
    obtain ⟨rfl, T, BA⟩ := hcut
    obtain ⟨_, _, _, _, _, _, _, _, _⟩ := BA.four
    have hs := HC.out
    have h1 : ¬ -b < 0 := fun h => hs (.inl h)
    have h2 : ¬ 0 < -c := fun h => hs (.inr h)
    go_wp2
    go_ret
    exact ⟨rfl, T⟩
set_option maxRecDepth 100000 in
set_option maxHeartbeats 2000000 in
theorem specShift_nm (a b c d g0 g : Int) (ha : Ent a) (hb : Ent b) (hc : Ent c) (hd : Ent d) (ht : a + d = -2) (hg0 : (Int.gcd (-b) (-c) : Int) = g0) (hg : (Int.gcd g0 (-a - 1) : Int) = g) (hm : Mid g0) (hgb : -4000000000000000000 ≤ g ∧ g ≤ 4000000000000000000) (hs : (-b < 0 ∨ 0 < -c)) (w : World) :
    Calls Tryd.prog 28 #[(.agg #[.int .i64 a, .int .i64 b, .int .i64 c, .int .i64 d])] w fun e w' => e = .returned (.int .i64 (-g)) ∧ Below w.heap.size w w' := by
  have HE := Lib.hid (show Ent a ∧ Ent b ∧ Ent c ∧ Ent d from ⟨ha, hb, hc, hd⟩)
  have HT := Lib.hid ht
  have HG0 := Lib.hid hg0
  have HG := Lib.hid hg
  have HM := Lib.hid hm
  have mb : Mid (-b) := by unfold Ent at hb; unfold Mid; omega
  have mc : Mid (-c) := by unfold Ent at hc; unfold Mid; omega
  have ma : Mid (-a - 1) := by unfold Ent at ha; unfold Mid; omega
  have HMB := Lib.hid mb
  have HMC := Lib.hid mc
  have HMA := Lib.hid ma
  have HC := Lib.hid hs
  obtain ⟨_, _⟩ := ha
  obtain ⟨_, _⟩ := hgb
  have hw : IntKind.i64.wrap (-a - 1) = -a - 1 := IntWalk.i64_in _ (by omega)
  clear hg hg0 hs mb mc ma hm ht
  go_enter Tryd.func28, Tryd.ntmps28
  go_wp2_with fail
  refine (l01Trace_is a b c d (-2) HT.out HE.out.1 HE.out.2.2.2 _).mono ?_
  rintro e w1 ⟨rfl, hb1⟩
  have BA : Box w1 w.heap.size [.int .i64 a, .int .i64 b, .int .i64 c, .int .i64 d] := Box.below (Box.new _ _ _) hb1
  have T : Below w.heap.size w w1 := own_trans (own_alloc (own_refl _) _) hb1
  obtain ⟨_, _, _, _, _, _, _, _, _⟩ := BA.four
  go_wp2_with fail
  refine (specNeg_ent a b c d HE.out.1 HE.out.2.1 HE.out.2.2.1 HE.out.2.2.2 _).mono ?_
  rintro e w2 ⟨rfl, hb2⟩
  have BA2 := BA.below hb2
  have T2 := own_trans T hb2
  obtain ⟨_, _, _, _, _, _, _, _, _⟩ := BA2.four
  go_upto_region 3 with fail
  have BA := BA2.put4 (.int .i64 (-a)) (.int .i64 (-b)) (.int .i64 (-c)) (.int .i64 (-d))
  have T : Below w.heap.size w ((((w2.setCell ⟨w.heap.size, 0, none⟩ (.int .i64 (-a))).setCell ⟨w.heap.size, 1, none⟩ (.int .i64 (-b))).setCell ⟨w.heap.size, 2, none⟩ (.int .i64 (-c))).setCell ⟨w.heap.size, 3, none⟩ (.int .i64 (-d))) := by repeat (first | with_reducible exact own_refl _ | with_reducible assumption | with_reducible apply own_alloc | with_reducible apply own_drewN | with_reducible apply own_drew | ((with_reducible refine own_setCell ?_ ?_ _); rotate_left; focus (first | (simp; done) | (simp; omega))) | (with_reducible (refine own_trans ?_ (by assumption))))
  generalize ((((w2.setCell ⟨w.heap.size, 0, none⟩ (.int .i64 (-a))).setCell ⟨w.heap.size, 1, none⟩ (.int .i64 (-b))).setCell ⟨w.heap.size, 2, none⟩ (.int .i64 (-c))).setCell ⟨w.heap.size, 3, none⟩ (.int .i64 (-d))) = wx at BA T ⊢
  clear BA2 T2 hb2 hb1
  obtain ⟨_, _, _, _, _, _, _, _, _⟩ := BA.four
  go_cut [3] (fun s wx => s = (.int .i64 g) ∧ Below w.heap.size w wx ∧ Box wx w.heap.size [.int .i64 (-a), .int .i64 (-b), .int .i64 (-c), .int .i64 (-d)])
  case first =>
    go_region_held3 (fun w' => w'.cell? ⟨w.heap.size, 0, none⟩ = some (.int .i64 (-a)) ∧ w'.cell? ⟨w.heap.size, 1, none⟩ = some (.int .i64 (-b)) ∧ w'.cell? ⟨w.heap.size, 2, none⟩ = some (.int .i64 (-c))) (go_keep)
      (first
        | (have G0 := G1; go_at_call 58; refine (l01Gcd_to g _ g0 _ HG.out (by first | rfl | exact hw | exact (IntWalk.i64_in _ (by omega)).trans (by omega)) HM.out HMA.out _).mono ?_; rintro e w3 ⟨rfl, rfl⟩)
        | (go_at_call 58; refine (l01Gcd_is g0 _ _ HG0.out HMB.out HMC.out _).mono ?_; rintro e w2 ⟨rfl, rfl⟩; have G1 : True := trivial))
    all_goals
      go_wp2_with fail
      go_meet
      exact ⟨rfl, by first | exact T | exact own_drew T | exact below_drewN' T _, by first | exact BA | exact BA.drew | exact BA.drewN _⟩
  case rest =>
    obtain ⟨rfl, T, BA⟩ := hcut
    obtain ⟨_, _, _, _, _, _, _, _, _⟩ := BA.four
    have hs := HC.out
    by_cases h1 : -b < 0
    · go_wp2
      go_ret
      exact ⟨rfl, T⟩
    · have h2 : 0 < -c := by omega
      go_wp2
      go_ret
      exact ⟨rfl, T⟩
end Go.Proofs.YtpmifhjbngocmaaDoor
