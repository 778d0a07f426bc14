/- firstNumber and l07First: walks. -/
import Derived.Test.YtajfjfgpiggekaaDoorFst
namespace Go.Proofs.YtajfjfgpiggekaaDoor
open Go.ChangeShapes Go.WideShapes Go.ChangeAt Go.RowKit

set_option maxHeartbeats 1000000 in
theorem firstNumber_zero (a b d : Int) (h : isM a b 0 d = true) (w : World) :
    Calls Tryd.prog 17 #[(.agg #[.int .i64 a, .int .i64 b, .int .i64 0, .int .i64 d])] w fun e w' => e = .returned (.int .i64 (fst a b 0 d)) ∧ Below w.heap.size w w' := by
  obtain ⟨ea, eb, ec, ed, _⟩ := isM_ent h
  obtain ⟨_, _⟩ := ent_mul eb ed
  have HF := Lib.hid (show b * d = fst a b 0 d by unfold fst; rw [if_pos rfl])
  clear h ea eb ec ed
  go_enter Tryd.func17, Tryd.ntmps17
  go_wp2
  go_quiet (fail)
  go_wp2
  go_ret
  exact ⟨ret_int HF.out, by repeat (first | with_reducible exact own_refl _ | with_reducible assumption | with_reducible apply own_alloc | with_reducible apply own_drewN | with_reducible apply own_drew | ((with_reducible refine own_setCell ?_ ?_ _); rotate_left; focus (first | (simp; done) | (simp; omega))) | (with_reducible (refine own_trans ?_ (by assumption))))⟩
set_option maxRecDepth 100000 in
set_option maxHeartbeats 4000000 in
theorem firstNumber_nz (a b c d : Int) (h : isM a b c d = true) (hc : (c.natAbs : Int) ≤ 20000) (hz : ¬ c = 0) (w : World) :
    Calls Tryd.prog 17 #[(.agg #[.int .i64 a, .int .i64 b, .int .i64 c, .int .i64 d])] w fun e w' => e = .returned (.int .i64 (fst a b c d)) ∧ Below w.heap.size w w' := by
  obtain ⟨ea, eb, ec, ed, _⟩ := isM_ent h
  have hg := isM_gcd h
  obtain ⟨k, hk⟩ : ∃ k : Int, (c.natAbs : Int) = k := ⟨_, rfl⟩
  obtain ⟨x, hx⟩ : ∃ x, lowP (ls d k) (12 * k) = x := ⟨_, rfl⟩
  obtain ⟨y, hy⟩ : ∃ y, lowQ (ls d k) (12 * k) = y := ⟨_, rfl⟩
  obtain ⟨s, hs⟩ : ∃ s, sgn c = s := ⟨_, rfl⟩
  have HF : Hid ((s * ((a + d) * y - 12 * k * x)).tdiv (k * y) = fst a b c d) := Lib.hid (by
    unfold fst; rw [if_neg hz, hk, hs, fst_eq (by omega) hx hy])
  have b1 := ls_bd (h := d) (k := (c.natAbs : Int)) (by omega) hc hg
  rw [hk] at hg hc b1
  have b2 := low_small (p := ls d k) (q := 12 * k) (by omega)
  rw [hx, hy] at b2
  have b3 := sgn_bd c
  rw [hs] at b3
  have HA := Lib.hid (fun w => absolute_any c (by unfold Ent at ec; omega) (by unfold Ent at ec; omega) w)
  rw [hk] at HA
  have HD := Lib.hid (fun w => dedekindSum_is d k x y (by omega) hc (ent_i64 ed) hg hx hy w)
  have HS := Lib.hid (fun w => signOf_any c w)
  rw [hs] at HS
  have HT := Lib.hid (fun w => traceOf_any a b c d ea ed w)
  unfold Ent at ea ed
  have m1 := mul_bd (a := a + d) (d := y) (A := 2000000000) (D := 240000) (by omega) (by omega)
  have m2 := mul_bd (a := 12 * k) (d := x) (A := 240000) (D := 1200000000) (by omega) (by omega)
  have m3 := mul_bd (a := s) (d := (a + d) * y - 12 * k * x) (A := 1) (D := 1000000000000000) (by omega) (by omega)
  have m4 := mul_bd (a := k) (d := y) (A := 20000) (D := 240000) (by omega) (by omega)
  have hne : ¬ k * y = 0 := by
    have := Int.mul_pos (show 0 < k by omega) (show 0 < y by omega)
    omega
  have hz' : (c == 0) = false := by simp [hz]
  have w1 : IntKind.i64.wrap (a + d) = a + d := IntWalk.i64_in _ (by omega)
  have w2 : IntKind.i64.wrap ((a + d) * y) = (a + d) * y := IntWalk.i64_in _ (by omega)
  have w3 : IntKind.i64.wrap (12 * k) = 12 * k := IntWalk.i64_in _ (by omega)
  have w4 : IntKind.i64.wrap (12 * k * x) = 12 * k * x := IntWalk.i64_in _ (by omega)
  have w5 : IntKind.i64.wrap ((a + d) * y - 12 * k * x) = (a + d) * y - 12 * k * x := IntWalk.i64_in _ (by omega)
  have w6 : IntKind.i64.wrap (s * ((a + d) * y - 12 * k * x)) = s * ((a + d) * y - 12 * k * x) := IntWalk.i64_in _ (by omega)
  have w7 : IntKind.i64.wrap (k * y) = k * y := IntWalk.i64_in _ (by omega)
  have q0 : ((s * ((a + d) * y - 12 * k * x)).tdiv (k * y)).natAbs ≤ (s * ((a + d) * y - 12 * k * x)).natAbs := by
    rw [Int.natAbs_tdiv]; exact Nat.div_le_self _ _
  have w8 : IntKind.i64.wrap ((s * ((a + d) * y - 12 * k * x)).tdiv (k * y)) = (s * ((a + d) * y - 12 * k * x)).tdiv (k * y) := IntWalk.i64_in _ (by omega)
  clear h hx hy hs hk hz q0 m1 m2 m3 m4 eb ec ea ed hc hg b1 b2 b3
  go_enter Tryd.func17, Tryd.ntmps17
  go_wp2
  go_quiet (fail)
  go_wp2_with fail
  refine (HA.out _).mono ?_
  rintro e w' ⟨rfl, rfl⟩
  go_wp2_with fail
  refine (HD.out _).mono ?_
  rintro e w1 ⟨rfl, hb1⟩
  have T : Below w.heap.size w w1 := by repeat (first | with_reducible exact own_refl _ | with_reducible assumption | with_reducible apply own_alloc | with_reducible apply own_drewN | with_reducible apply own_drew | ((with_reducible refine own_setCell ?_ ?_ _); rotate_left; focus (first | (simp; done) | (simp; omega))) | (with_reducible (refine own_trans ?_ (by assumption))))
  have BA : Box w1 w.heap.size [.int .i64 a, .int .i64 b, .int .i64 c, .int .i64 d] := by refine Box.below ?_ hb1; exact Box.drewN (Box.new _ _ _) _
  clear hb1
  go_upto_region 1 with fail
  have BX : Box (w1.alloc (.cells #[.int .i64 x, .int .i64 y] 30)) w1.heap.size [.int .i64 x, .int .i64 y] := Box.new _ _ _
  have BA := BA.alloc (.cells #[.int .i64 x, .int .i64 y] 30)
  have T := own_alloc T (.cells #[.int .i64 x, .int .i64 y] 30)
  generalize w1.alloc (.cells #[.int .i64 x, .int .i64 y] 30) = W at BX BA T ⊢
  generalize w1.heap.size = gx at BX ⊢
  obtain ⟨_, _, _, _, _, _, _, _, _⟩ := BA.four
  obtain ⟨_, _, _, _, _⟩ := BX.two
  go_region_held3 (fun w' => w'.cell? ⟨w.heap.size, 0, none⟩ = some (.int .i64 a) ∧ w'.cell? ⟨w.heap.size, 1, none⟩ = some (.int .i64 b) ∧ w'.cell? ⟨w.heap.size, 2, none⟩ = some (.int .i64 c) ∧ w'.cell? ⟨w.heap.size, 3, none⟩ = some (.int .i64 d) ∧ w'.cell? ⟨gx, 0, none⟩ = some (.int .i64 x) ∧ w'.cell? ⟨gx, 1, none⟩ = some (.int .i64 y)) (go_keep)
    (first
      | (go_at_call 40; refine (HS.out _).mono ?_; rintro e w' ⟨rfl, rfl⟩)
      | (go_at_call 41; refine (HT.out _).mono ?_; rintro e w2 ⟨rfl, hb2⟩; have T := (by first | exact own_trans T hb2 | exact own_trans (own_drew T) hb2 : Below w.heap.size w w2); have BA := Box.below (by first | exact BA | exact Box.drew BA) hb2; have BX := Box.below (by first | exact BX | exact Box.drew BX) hb2; obtain ⟨_, _, _, _, _, _, _, _, _⟩ := BA.four; obtain ⟨_, _, _, _, _⟩ := BX.two))
  all_goals
    go_wp2
    go_ret
    exact ⟨ret_int HF.out, by repeat (first | with_reducible exact own_refl _ | with_reducible assumption | with_reducible apply own_alloc | with_reducible apply own_drewN | with_reducible apply own_drew | ((with_reducible refine own_setCell ?_ ?_ _); rotate_left; focus (first | (simp; done) | (simp; omega))) | (with_reducible (refine own_trans ?_ (by assumption))))⟩
theorem max_neg (c : Int) : (c < -c ∧ (c.natAbs : Int) = -c) ∨ (¬ c < -c ∧ (c.natAbs : Int) = c) := by omega
set_option maxHeartbeats 1000000 in
theorem l07First_zero (a b d : Int) (h : isM a b 0 d = true) (w : World) :
    Calls Tryd.prog 14 #[(.agg #[.int .i64 a, .int .i64 b, .int .i64 0, .int .i64 d])] w fun e w' => e = .returned (.int .i64 (fst a b 0 d)) ∧ Below w.heap.size w w' := by
  obtain ⟨ea, eb, ec, ed, _⟩ := isM_ent h
  obtain ⟨_, _⟩ := ent_mul eb ed
  have HF := Lib.hid (show b * d = fst a b 0 d by unfold fst; rw [if_pos rfl])
  clear h ea eb ec ed
  go_enter Tryd.func14, Tryd.ntmps14
  go_wp2
  go_ret
  exact ⟨ret_int HF.out, by repeat (first | with_reducible exact own_refl _ | with_reducible assumption | with_reducible apply own_alloc | with_reducible apply own_drewN | with_reducible apply own_drew | ((with_reducible refine own_setCell ?_ ?_ _); rotate_left; focus (first | (simp; done) | (simp; omega))) | (with_reducible (refine own_trans ?_ (by assumption))))⟩
set_option maxRecDepth 100000 in
set_option maxHeartbeats 4000000 in
theorem l07First_nz (a b c d : Int) (h : isM a b c d = true) (hc : (c.natAbs : Int) ≤ 20000) (hz : ¬ c = 0) (w : World) :
    Calls Tryd.prog 14 #[(.agg #[.int .i64 a, .int .i64 b, .int .i64 c, .int .i64 d])] w fun e w' => e = .returned (.int .i64 (fst a b c d)) ∧ Below w.heap.size w w' := by
  obtain ⟨ea, eb, ec, ed, _⟩ := isM_ent h
  have hg := isM_gcd h
  obtain ⟨k, hk⟩ : ∃ k : Int, (c.natAbs : Int) = k := ⟨_, rfl⟩
  obtain ⟨L, hL⟩ : ∃ L, ls d k = L := ⟨_, rfl⟩
  obtain ⟨s, hs⟩ : ∃ s, sgn c = s := ⟨_, rfl⟩
  have HF : Hid ((s * (a + d - L)).tdiv k = fst a b c d) := Lib.hid (by
    unfold fst; rw [if_neg hz, hk, hs, hL])
  have b1 := ls_bd (h := d) (k := (c.natAbs : Int)) (by omega) hc hg
  rw [hk] at hg hc b1
  have b3 := sgn_bd c
  rw [hs] at b3
  have hmx := max_neg c
  rw [hk] at hmx
  have HD := Lib.hid (fun w => l07Sum_is k.toNat d k (by omega) (by omega) hc (ent_i64 ed) hg w)
  have HS := Lib.hid (fun w => l07Sign_any c w)
  rw [hs] at HS
  rw [hL] at HD b1
  have HT := Lib.hid (fun w => l01Trace_any a b c d ea ed w)
  unfold Ent at ea ec ed
  have m3 := mul_bd (a := s) (d := a + d - L) (A := 1) (D := 4000000000) (by omega) (by omega)
  have hne : ¬ k = 0 := by omega
  have hz' : (c == 0) = false := by simp [hz]
  have w0 : IntKind.i64.wrap (-c) = -c := IntWalk.i64_in _ (by omega)
  have w1 : IntKind.i64.wrap (a + d - L) = a + d - L := IntWalk.i64_in _ (by omega)
  have w6 : IntKind.i64.wrap (s * (a + d - L)) = s * (a + d - L) := IntWalk.i64_in _ (by omega)
  have q0 : ((s * (a + d - L)).tdiv k).natAbs ≤ (s * (a + d - L)).natAbs := by
    rw [Int.natAbs_tdiv]; exact Nat.div_le_self _ _
  have w8 : IntKind.i64.wrap ((s * (a + d - L)).tdiv k) = (s * (a + d - L)).tdiv k := IntWalk.i64_in _ (by omega)
  clear h hs hL hz q0 m3 eb ea ed hg b1 b3
  rcases hmx with ⟨hl, hkc⟩ | ⟨hl, hkc⟩
  · have HK := Lib.hid hkc
    clear hkc
    go_enter Tryd.func14, Tryd.ntmps14
    go_upto_region 4 with fail
    rw [← HK.out]
    have BA : Box (w.alloc (.cells #[.int .i64 a, .int .i64 b, .int .i64 c, .int .i64 d] 25)) w.heap.size [.int .i64 a, .int .i64 b, .int .i64 c, .int .i64 d] := Box.new _ _ _
    have T := own_alloc (own_refl w) (.cells #[.int .i64 a, .int .i64 b, .int .i64 c, .int .i64 d] 25)
    generalize w.alloc (.cells #[.int .i64 a, .int .i64 b, .int .i64 c, .int .i64 d] 25) = W at BA T ⊢
    obtain ⟨_, _, _, _, _, _, _, _, _⟩ := BA.four
    go_region_held3 (fun w' => w'.cell? ⟨w.heap.size, 0, none⟩ = some (.int .i64 a) ∧ w'.cell? ⟨w.heap.size, 1, none⟩ = some (.int .i64 b) ∧ w'.cell? ⟨w.heap.size, 2, none⟩ = some (.int .i64 c) ∧ w'.cell? ⟨w.heap.size, 3, none⟩ = some (.int .i64 d)) (go_keep)
      (first
        | (go_at_call 33; refine (HS.out _).mono ?_; rintro e w' ⟨rfl, rfl⟩)
        | (go_at_call 35; refine (HD.out _).mono ?_; rintro e w' ⟨rfl, rfl⟩)
        | (go_at_call 34; refine (HT.out _).mono ?_; rintro e w2 ⟨rfl, hb2⟩; have T := (by first | exact own_trans T hb2 | exact own_trans (own_drew T) hb2 : Below w.heap.size w w2); have BA := Box.below (by first | exact BA | exact Box.drew BA) hb2; obtain ⟨_, _, _, _, _, _, _, _, _⟩ := BA.four))
    all_goals
      go_wp2
      go_ret
      exact ⟨ret_int HF.out, by repeat (first | with_reducible exact own_refl _ | with_reducible assumption | with_reducible apply own_alloc | with_reducible apply own_drewN | with_reducible apply own_drew | ((with_reducible refine own_setCell ?_ ?_ _); rotate_left; focus (first | (simp; done) | (simp; omega))) | (with_reducible (refine own_trans ?_ (by assumption))))⟩
  · have hkc : c = k := hkc.symm
    subst hkc
    go_enter Tryd.func14, Tryd.ntmps14
    go_upto_region 4 with fail
    have BA : Box (w.alloc (.cells #[.int .i64 a, .int .i64 b, .int .i64 c, .int .i64 d] 25)) w.heap.size [.int .i64 a, .int .i64 b, .int .i64 c, .int .i64 d] := Box.new _ _ _
    have T := own_alloc (own_refl w) (.cells #[.int .i64 a, .int .i64 b, .int .i64 c, .int .i64 d] 25)
    generalize w.alloc (.cells #[.int .i64 a, .int .i64 b, .int .i64 c, .int .i64 d] 25) = W at BA T ⊢
    obtain ⟨_, _, _, _, _, _, _, _, _⟩ := BA.four
    go_region_held3 (fun w' => w'.cell? ⟨w.heap.size, 0, none⟩ = some (.int .i64 a) ∧ w'.cell? ⟨w.heap.size, 1, none⟩ = some (.int .i64 b) ∧ w'.cell? ⟨w.heap.size, 2, none⟩ = some (.int .i64 c) ∧ w'.cell? ⟨w.heap.size, 3, none⟩ = some (.int .i64 d)) (go_keep)
      (first
        | (go_at_call 33; refine (HS.out _).mono ?_; rintro e w' ⟨rfl, rfl⟩)
        | (go_at_call 35; refine (HD.out _).mono ?_; rintro e w' ⟨rfl, rfl⟩)
        | (go_at_call 34; refine (HT.out _).mono ?_; rintro e w2 ⟨rfl, hb2⟩; have T := (by first | exact own_trans T hb2 | exact own_trans (own_drew T) hb2 : Below w.heap.size w w2); have BA := Box.below (by first | exact BA | exact Box.drew BA) hb2; obtain ⟨_, _, _, _, _, _, _, _, _⟩ := BA.four))
    all_goals
      go_wp2
      go_ret
      exact ⟨ret_int HF.out, by repeat (first | with_reducible exact own_refl _ | with_reducible assumption | with_reducible apply own_alloc | with_reducible apply own_drewN | with_reducible apply own_drew | ((with_reducible refine own_setCell ?_ ?_ _); rotate_left; focus (first | (simp; done) | (simp; omega))) | (with_reducible (refine own_trans ?_ (by assumption))))⟩
end Go.Proofs.YtajfjfgpiggekaaDoor
