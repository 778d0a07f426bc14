/- Contracts of FormOfMatrix, on both sides. -/
import Derived.Test.YtfpgdbdgglbleaaDoorKind
import Derived.Test.YtfpgdbdgglbleaaDoorSKind
import Derived.Test.YtfpgdbdgglbleaaDoorFm
import Derived.Test.YtfpgdbdgglbleaaDoorLow
import Derived.Test.YtfpgdbdgglbleaaDoorWmf
namespace Go.Proofs.YtfpgdbdgglbleaaDoor
open Go.ChangeShapes Go.WideShapes Go.ChangeAt Go.RowKit

set_option maxHeartbeats 1000000 in
theorem divisorOf_is (g1 g a b c : Int) (h1 : (Int.gcd a b : Int) = g1) (h2 : (Int.gcd g1 c : Int) = g) (ha : Mid a) (hb : Mid b) (hg : Mid g1) (hc : Mid c) (w : World) :
    Calls Tryd.prog 18 #[(.agg #[.int .i64 a, .int .i64 b, .int .i64 c])] w fun e w' => e = .returned (.int .i64 g) ∧ Below w.heap.size w w' := by
  have HA := Lib.hid (fun w => commonDivisor_is g1 a b h1 ha hb w)
  have HB := Lib.hid (fun w => commonDivisor_is g g1 c h2 hg hc w)
  clear h1 h2 ha hb hc hg
  go_enter Tryd.func18, Tryd.ntmps18
  go_upto_region 1 with fail
  have BF : Box (w.alloc (.cells #[.int .i64 a, .int .i64 b, .int .i64 c] 24)) w.heap.size [.int .i64 a, .int .i64 b, .int .i64 c] := Box.new _ _ _
  have T : Below w.heap.size w (w.alloc (.cells #[.int .i64 a, .int .i64 b, .int .i64 c] 24)) := own_alloc (own_refl _) _
  obtain ⟨_, _, _, _, _, _, _⟩ := BF.three
  go_region_held3 (fun w' => w'.cell? ⟨w.heap.size, 0, none⟩ = some (.int .i64 a) ∧ w'.cell? ⟨w.heap.size, 1, none⟩ = some (.int .i64 b) ∧ w'.cell? ⟨w.heap.size, 2, none⟩ = some (.int .i64 c)) (go_keep)
    (first
      | (go_at_call 31; first | with_reducible refine (HA.out _).mono ?_ | with_reducible refine (HB.out _).mono ?_
         rintro e w2 ⟨rfl, hb2⟩
         have T := (by first | exact own_trans T hb2 | exact own_trans (own_drew T) hb2 : Below w.heap.size w w2)
         have BF := Box.below (by first | exact BF | exact Box.drew BF) hb2
         obtain ⟨_, _, _, _, _, _, _⟩ := BF.three))
  all_goals
    go_wp2
    go_ret
    exact ⟨rfl, T⟩

theorem wrap_in' {x : Int} (h : -9223372036854775808 ≤ x ∧ x ≤ 9223372036854775807) : IntKind.i64.wrap x = x := IntWalk.i64_in _ h
theorem tdiv_ne {x g : Int} (hx : x ≠ 0) (hg : 1 ≤ g) (hd : g.natAbs ∣ x.natAbs) : x.tdiv g ≠ 0 := by
  have h1 : (x.tdiv g).natAbs = x.natAbs / g.natAbs := Int.natAbs_tdiv x g
  have h2 : 0 < x.natAbs / g.natAbs := Nat.div_pos (Nat.le_of_dvd (by omega) hd) (by omega)
  omega
theorem mid_gcd {x y : Int} (hx : Mid x) (hy : Mid y) : Mid (Int.gcd x y : Int) := by
  by_cases h : x = 0 ∧ y = 0
  · obtain ⟨rfl, rfl⟩ := h; unfold Mid; simp
  · have := gcd_facts h hx hy
    unfold Mid; omega

set_option maxHeartbeats 1000000 in
theorem implFM_no (a b c d : Int) (h : isM a b c d = false) (w : World) :
    Calls Tryd.prog 7 #[(.agg #[.int .i64 a, .int .i64 b, .int .i64 c, .int .i64 d])] w fun e w' => e = .returned (.tuple #[(.agg #[.int .i64 0, .int .i64 0, .int .i64 0]), (.int .i64 1)]) ∧ Below w.heap.size w w' := by
  have H := Lib.hid h
  clear h
  go_enter Tryd.func7, Tryd.ntmps7
  go_wp2_with fail
  refine (implKind_no _ _ _ _ H.out _).mono ?_
  rintro e w1 ⟨rfl, hb1⟩
  have Bw1_0 : Box w1 (w.heap.size + 1) [.int .i64 0, .int .i64 0, .int .i64 0] := by refine Box.below ?_ hb1; repeat (first | with_reducible assumption | with_reducible exact Box.new _ _ _ | (with_reducible refine Box.newAt ?_ _ _; (simp; done)) | with_reducible apply Box.alloc | with_reducible apply Box.drewN | with_reducible apply Box.drew)
  obtain ⟨_, _, _, _, _, _, _⟩ := Bw1_0.three
  go_wp2
  obtain ⟨_, e0, e1, e2, _, _, _⟩ := (Bw1_0.put3 (.int .i64 0) (.int .i64 0) (.int .i64 0)).three
  exact bodyPost_ret (v := .tuple #[(.agg #[.int .i64 0, .int .i64 0, .int .i64 0]), (.int .i64 1)]) (by simp [results, Tryd.results7, go_sem, e0, e1, e2]) rfl ⟨rfl, by repeat (first | with_reducible exact own_refl _ | with_reducible assumption | with_reducible apply own_alloc | with_reducible apply own_drewN | with_reducible apply own_drew | ((with_reducible refine own_setCell ?_ ?_ _); rotate_left; focus (first | (simp; done) | (simp; omega))) | (with_reducible (refine own_trans ?_ (by assumption))))⟩
set_option maxHeartbeats 1000000 in
theorem implFM_zero (a b c d : Int) (h : isM a b c d = true) (hk : kind a b c d = 0) (w : World) (hid : Idn w) :
    Calls Tryd.prog 7 #[(.agg #[.int .i64 a, .int .i64 b, .int .i64 c, .int .i64 d])] w fun e w' => e = .returned (.tuple #[(.agg #[.int .i64 0, .int .i64 0, .int .i64 0]), (.int .i64 5)]) ∧ Below w.heap.size w w' := by
  have HK := Lib.hid (fun w hi => (hk ▸ implKind_yes a b c d h w hi : Calls Tryd.prog 17 #[(.agg #[.int .i64 a, .int .i64 b, .int .i64 c, .int .i64 d])] w fun e w' => e = .returned (.tuple #[(.int .i64 0), (.int .i64 0)]) ∧ Below w.heap.size w w'))
  clear h hk
  go_enter Tryd.func7, Tryd.ntmps7
  go_wp2_with fail
  refine (HK.out _ (Rd.alloc (Rd.alloc hid _) _)).mono ?_
  rintro e w1 ⟨rfl, hb1⟩
  have Bw1_0 : Box w1 (w.heap.size + 1) [.int .i64 0, .int .i64 0, .int .i64 0] := by refine Box.below ?_ hb1; repeat (first | with_reducible assumption | with_reducible exact Box.new _ _ _ | (with_reducible refine Box.newAt ?_ _ _; (simp; done)) | with_reducible apply Box.alloc | with_reducible apply Box.drewN | with_reducible apply Box.drew)
  obtain ⟨_, _, _, _, _, _, _⟩ := Bw1_0.three
  go_wp2
  obtain ⟨_, e0, e1, e2, _, _, _⟩ := (Bw1_0.put3 (.int .i64 0) (.int .i64 0) (.int .i64 0)).three
  exact bodyPost_ret (v := .tuple #[(.agg #[.int .i64 0, .int .i64 0, .int .i64 0]), (.int .i64 5)]) (by simp [results, Tryd.results7, go_sem, e0, e1, e2]) rfl ⟨rfl, by repeat (first | with_reducible exact own_refl _ | with_reducible assumption | with_reducible apply own_alloc | with_reducible apply own_drewN | with_reducible apply own_drew | ((with_reducible refine own_setCell ?_ ?_ _); rotate_left; focus (first | (simp; done) | (simp; omega))) | (with_reducible (refine own_trans ?_ (by assumption))))⟩
set_option maxHeartbeats 2000000 in
theorem implFM_yes (a b c d k g1 g x y z u v t q : Int) (h : isM a b c d = true) (hk : kind a b c d = k) (hk0 : (k == 0) = false) (h1 : (Int.gcd c (d - a) : Int) = g1) (h2 : (Int.gcd g1 (-b) : Int) = g) (mg : Mid g1) (hg : 1 ≤ g) (hg2 : g ≤ 4000000000000000000)
    (hx : c.tdiv g = x) (hy : (d - a).tdiv g = y) (hz : -(b.tdiv g) = z)
    (hw : ∀ w : World, Calls Tryd.prog 19 #[(.agg #[.int .i64 x, .int .i64 y, .int .i64 z])] w fun e w' => e = .returned (.tuple #[(.agg #[.int .i64 u, .int .i64 v, .int .i64 t]), (.int .i64 q)]) ∧ Below w.heap.size w w') (w : World) (hid : Idn w) :
    Calls Tryd.prog 7 #[(.agg #[.int .i64 a, .int .i64 b, .int .i64 c, .int .i64 d])] w fun e w' => e = .returned (.tuple #[(.agg #[.int .i64 u, .int .i64 v, .int .i64 t]), (.int .i64 q)]) ∧ Below w.heap.size w w' := by
  obtain ⟨ea, eb, ec, ed, _⟩ := isM_ent h
  have mc : Mid c := by unfold Ent at ec; unfold Mid; omega
  have mb : Mid (-b) := by unfold Ent at eb; unfold Mid; omega
  have mb' : Mid b := by unfold Ent at eb; unfold Mid; omega
  subst hx hy hz
  have md : Mid (d - a) := by unfold Ent at ea ed; unfold Mid; omega
  have HK := Lib.hid (fun w hi => (hk ▸ implKind_yes a b c d h w hi : Calls Tryd.prog 17 #[(.agg #[.int .i64 a, .int .i64 b, .int .i64 c, .int .i64 d])] w fun e w' => e = .returned (.tuple #[(.int .i64 k), (.int .i64 0)]) ∧ Below w.heap.size w w'))
  have HD := Lib.hid (fun w => divisorOf_is g1 g c (d - a) (-b) h1 h2 mc md mg mb w)
  have HW := Lib.hid hw
  have b1 := tdiv_bd (d := g) mc
  have b2 := tdiv_bd (d := g) md
  have b3 := tdiv_bd (d := g) mb'
  unfold Mid at b1 b2 b3
  have g0 : (g == 0) = false := by rw [beq_eq_false_iff_ne]; omega
  have g0' : ¬ g = 0 := by omega
  obtain ⟨_, _⟩ := ea
  obtain ⟨_, _⟩ := eb
  obtain ⟨_, _⟩ := ec
  obtain ⟨_, _⟩ := ed
  clear h hk h1 h2 mc md mb mb' mg hw
  go_enter Tryd.func7, Tryd.ntmps7
  go_wp2_with fail
  refine (HK.out _ (Rd.alloc (Rd.alloc hid _) _)).mono ?_
  rintro e w1 ⟨rfl, hb1⟩
  have Bw1_0 : Box w1 (w.heap.size) [.int .i64 a, .int .i64 b, .int .i64 c, .int .i64 d] := by refine Box.below ?_ hb1; repeat (first | with_reducible assumption | with_reducible exact Box.new _ _ _ | (with_reducible refine Box.newAt ?_ _ _; (simp; done)) | with_reducible apply Box.alloc | with_reducible apply Box.drewN | with_reducible apply Box.drew)
  obtain ⟨_, _, _, _, _, _, _, _, _⟩ := Bw1_0.four
  have Bw1_1 : Box w1 (w.heap.size + 1) [.int .i64 0, .int .i64 0, .int .i64 0] := by refine Box.below ?_ hb1; repeat (first | with_reducible assumption | with_reducible exact Box.new _ _ _ | (with_reducible refine Box.newAt ?_ _ _; (simp; done)) | with_reducible apply Box.alloc | with_reducible apply Box.drewN | with_reducible apply Box.drew)
  obtain ⟨_, _, _, _, _, _, _⟩ := Bw1_1.three
  go_wp2_with fail
  refine (HD.out _).mono ?_
  rintro e w2 ⟨rfl, hb2⟩
  have BZ := (Box.alloc Bw1_1 _).below hb2
  have BN := Box.below (Box.new _ _ _) hb2
  have n1 := BN.1
  obtain ⟨_, _, _, _, _, _, _⟩ := BZ.three
  obtain ⟨_, _, _, _, _, _, _⟩ := BN.three
  go_wp2_with fail
  refine wp_loop_rounds 4 ?_
  iterate 4
    rw [rounds_succ]
    go_wp2_with fail
  refine (HW.out _).mono ?_
  rintro e w3 ⟨rfl, hb3⟩
  have T2 : Below w.heap.size w w2 := by repeat (first | with_reducible exact own_refl _ | with_reducible assumption | with_reducible apply own_alloc | with_reducible apply own_drewN | with_reducible apply own_drew | ((with_reducible refine own_setCell ?_ ?_ _); rotate_left; focus (first | (simp; done) | (simp; omega))) | (with_reducible (refine own_trans ?_ (by assumption))))
  have hs1 : w.heap.size ≤ w1.heap.size := by have := Bw1_0.1; omega
  have T3 : Below w.heap.size w w3 := by repeat (first | with_reducible exact own_refl _ | with_reducible assumption | with_reducible apply own_alloc | with_reducible apply own_drewN | with_reducible apply own_drew | ((with_reducible refine own_setCell ?_ ?_ _); rotate_left; focus (first | (simp; done) | (simp; omega))) | (with_reducible (refine own_trans ?_ (by assumption))))
  have BZ := (((BZ.far (p := ⟨w1.heap.size, 0, none⟩) (by dsimp only; omega) (.int .i64 (c.tdiv g))).far (p := ⟨w1.heap.size, 1, none⟩) (by dsimp only; omega) (.int .i64 ((d - a).tdiv g))).far (p := ⟨w1.heap.size, 2, none⟩) (by dsimp only; omega) (.int .i64 (-(b.tdiv g)))).below hb3
  obtain ⟨_, _, _, _, _, _, _⟩ := BZ.three
  go_wp2
  obtain ⟨_, e0, e1, e2, _, _, _⟩ := (BZ.put3 (.int .i64 u) (.int .i64 v) (.int .i64 t)).three
  exact bodyPost_ret (v := .tuple #[(.agg #[.int .i64 u, .int .i64 v, .int .i64 t]), (.int .i64 q)]) (by simp [results, Tryd.results7, go_sem, e0, e1, e2]) rfl ⟨rfl, by repeat (first | with_reducible exact own_refl _ | with_reducible assumption | with_reducible apply own_alloc | with_reducible apply own_drewN | with_reducible apply own_drew | ((with_reducible refine own_setCell ?_ ?_ _); rotate_left; focus (first | (simp; done) | (simp; omega))) | (with_reducible (refine own_trans ?_ (by assumption))))⟩

set_option maxHeartbeats 1000000 in
theorem specFM_no (a b c d : Int) (h : isM a b c d = false) (w : World) :
    Calls Tryd.prog 5 #[(.agg #[.int .i64 a, .int .i64 b, .int .i64 c, .int .i64 d])] w fun e w' => e = .returned (.tuple #[(.agg #[.int .i64 0, .int .i64 0, .int .i64 0]), (.int .i64 1)]) ∧ Below w.heap.size w w' := by
  have H := Lib.hid h
  clear h
  go_enter Tryd.func5, Tryd.ntmps5
  go_wp2_with fail
  refine (l01Is_is false _ _ _ _ _ H.out).mono ?_
  rintro e w1 ⟨rfl, hb1⟩
  have Bw1_0 : Box w1 (w.heap.size + 1) [.int .i64 0, .int .i64 0, .int .i64 0] := by refine Box.below ?_ hb1; repeat (first | with_reducible assumption | with_reducible exact Box.new _ _ _ | (with_reducible refine Box.newAt ?_ _ _; (simp; done)) | with_reducible apply Box.alloc | with_reducible apply Box.drewN | with_reducible apply Box.drew)
  obtain ⟨_, _, _, _, _, _, _⟩ := Bw1_0.three
  go_wp2
  obtain ⟨_, e0, e1, e2, _, _, _⟩ := (Bw1_0.put3 (.int .i64 0) (.int .i64 0) (.int .i64 0)).three
  exact bodyPost_ret (v := .tuple #[(.agg #[.int .i64 0, .int .i64 0, .int .i64 0]), (.int .i64 1)]) (by simp [results, Tryd.results5, go_sem, e0, e1, e2]) rfl ⟨rfl, by repeat (first | with_reducible exact own_refl _ | with_reducible assumption | with_reducible apply own_alloc | with_reducible apply own_drewN | with_reducible apply own_drew | ((with_reducible refine own_setCell ?_ ?_ _); rotate_left; focus (first | (simp; done) | (simp; omega))) | (with_reducible (refine own_trans ?_ (by assumption))))⟩
set_option maxHeartbeats 1000000 in
theorem specFM_zero (a b c d : Int) (h : isM a b c d = true) (hk : kind a b c d = 0) (w : World) :
    Calls Tryd.prog 5 #[(.agg #[.int .i64 a, .int .i64 b, .int .i64 c, .int .i64 d])] w fun e w' => e = .returned (.tuple #[(.agg #[.int .i64 0, .int .i64 0, .int .i64 0]), (.int .i64 5)]) ∧ Below w.heap.size w w' := by
  obtain ⟨ea, _, _, ed, _⟩ := isM_ent h
  have H := Lib.hid h
  have HK := Lib.hid (fun w => (hk ▸ l01Kind_any a b c d ea ed w : Calls Tryd.prog 14 #[(.agg #[.int .i64 a, .int .i64 b, .int .i64 c, .int .i64 d])] w fun e w' => e = .returned (.int .i64 0) ∧ Below w.heap.size w w'))
  clear h hk ea ed
  go_enter Tryd.func5, Tryd.ntmps5
  go_wp2_with fail
  refine (l01Is_is true _ _ _ _ _ H.out).mono ?_
  rintro e w1 ⟨rfl, hb1⟩
  have Bw1_0 : Box w1 (w.heap.size) [.int .i64 a, .int .i64 b, .int .i64 c, .int .i64 d] := by refine Box.below ?_ hb1; repeat (first | with_reducible assumption | with_reducible exact Box.new _ _ _ | (with_reducible refine Box.newAt ?_ _ _; (simp; done)) | with_reducible apply Box.alloc | with_reducible apply Box.drewN | with_reducible apply Box.drew)
  obtain ⟨_, _, _, _, _, _, _, _, _⟩ := Bw1_0.four
  have Bw1_1 : Box w1 (w.heap.size + 1) [.int .i64 0, .int .i64 0, .int .i64 0] := by refine Box.below ?_ hb1; repeat (first | with_reducible assumption | with_reducible exact Box.new _ _ _ | (with_reducible refine Box.newAt ?_ _ _; (simp; done)) | with_reducible apply Box.alloc | with_reducible apply Box.drewN | with_reducible apply Box.drew)
  obtain ⟨_, _, _, _, _, _, _⟩ := Bw1_1.three
  go_wp2_with fail
  refine (HK.out _).mono ?_
  rintro e w2 ⟨rfl, hb2⟩
  have Bw2_0 : Box w2 (w.heap.size + 1) [.int .i64 0, .int .i64 0, .int .i64 0] := by refine Box.below ?_ hb2; repeat (first | with_reducible assumption | with_reducible exact Box.new _ _ _ | (with_reducible refine Box.newAt ?_ _ _; (simp; done)) | with_reducible apply Box.alloc | with_reducible apply Box.drewN | with_reducible apply Box.drew)
  obtain ⟨_, _, _, _, _, _, _⟩ := Bw2_0.three
  go_wp2
  obtain ⟨_, e0, e1, e2, _, _, _⟩ := (Bw2_0.put3 (.int .i64 0) (.int .i64 0) (.int .i64 0)).three
  exact bodyPost_ret (v := .tuple #[(.agg #[.int .i64 0, .int .i64 0, .int .i64 0]), (.int .i64 5)]) (by simp [results, Tryd.results5, go_sem, e0, e1, e2]) rfl ⟨rfl, by repeat (first | with_reducible exact own_refl _ | with_reducible assumption | with_reducible apply own_alloc | with_reducible apply own_drewN | with_reducible apply own_drew | ((with_reducible refine own_setCell ?_ ?_ _); rotate_left; focus (first | (simp; done) | (simp; omega))) | (with_reducible (refine own_trans ?_ (by assumption))))⟩
set_option maxHeartbeats 4000000 in
theorem specFM_yes (r : Bool) (a b c d k g1 g u v t q : Int) (h : isM a b c d = true) (hk : kind a b c d = k) (hk0 : (k == 0) = false) (h1 : (Int.gcd c (d - a) : Int) = g1) (h2 : (Int.gcd g1 b : Int) = g) (mg : Mid g1) (hg : 1 ≤ g) (hg2 : g ≤ 4000000000000000000)
    (hr : isQ (c.tdiv g) ((d - a).tdiv g) (-(b.tdiv g)) = r) (he : (r = true ∧ u = c.tdiv g ∧ v = (d - a).tdiv g ∧ t = -(b.tdiv g) ∧ q = 0) ∨ (r = false ∧ u = 0 ∧ v = 0 ∧ t = 0 ∧ q = 3)) (w : World) :
    Calls Tryd.prog 5 #[(.agg #[.int .i64 a, .int .i64 b, .int .i64 c, .int .i64 d])] w fun e w' => e = .returned (.tuple #[(.agg #[.int .i64 u, .int .i64 v, .int .i64 t]), (.int .i64 q)]) ∧ Below w.heap.size w w' := by
  obtain ⟨ea, eb, ec, ed, _⟩ := isM_ent h
  have H := Lib.hid h
  have HK := Lib.hid (fun w => (hk ▸ l01Kind_any a b c d ea ed w : Calls Tryd.prog 14 #[(.agg #[.int .i64 a, .int .i64 b, .int .i64 c, .int .i64 d])] w fun e w' => e = .returned (.int .i64 k) ∧ Below w.heap.size w w'))
  have mc : Mid c := by unfold Ent at ec; unfold Mid; omega
  have mb : Mid b := by unfold Ent at eb; unfold Mid; omega
  have md : Mid (d - a) := by unfold Ent at ea ed; unfold Mid; omega
  have HA := Lib.hid (fun w => l01Gcd_is g1 c (d - a) h1 mc md w)
  have HB := Lib.hid (fun w => l01Gcd_is g g1 b h2 mg mb w)
  have b1 := tdiv_bd (d := g) mc
  have b2 := tdiv_bd (d := g) md
  have b3 := tdiv_bd (d := g) mb
  unfold Mid at b1 b2 b3
  have HR := Lib.hid hr
  have g0 : (g == 0) = false := by rw [beq_eq_false_iff_ne]; omega
  have g0' : ¬ g = 0 := by omega
  have m1 := wrap_in' (x := d - a) (by unfold Ent at ea ed; omega)
  have m2 := wrap_in' (x := c.tdiv g) (by omega)
  have m3 := wrap_in' (x := (d - a).tdiv g) (by omega)
  have m4 := wrap_in' (x := -b) (by unfold Ent at eb; omega)
  have m5 := wrap_in' (x := -(b.tdiv g)) (by omega)
  have m6 := wrap_in' (x := (-b).tdiv g) (by rw [Int.neg_tdiv]; omega)
  clear h hk h1 h2 mc md mb mg hr ea eb ec ed
  go_enter Tryd.func5, Tryd.ntmps5
  go_wp2_with fail
  refine (l01Is_is true _ _ _ _ _ H.out).mono ?_
  rintro e w1 ⟨rfl, hb1⟩
  have Bw1_0 : Box w1 (w.heap.size) [.int .i64 a, .int .i64 b, .int .i64 c, .int .i64 d] := by refine Box.below ?_ hb1; repeat (first | with_reducible assumption | with_reducible exact Box.new _ _ _ | (with_reducible refine Box.newAt ?_ _ _; (simp; done)) | with_reducible apply Box.alloc | with_reducible apply Box.drewN | with_reducible apply Box.drew)
  obtain ⟨_, _, _, _, _, _, _, _, _⟩ := Bw1_0.four
  have Bw1_1 : Box w1 (w.heap.size + 1) [.int .i64 0, .int .i64 0, .int .i64 0] := by refine Box.below ?_ hb1; repeat (first | with_reducible assumption | with_reducible exact Box.new _ _ _ | (with_reducible refine Box.newAt ?_ _ _; (simp; done)) | with_reducible apply Box.alloc | with_reducible apply Box.drewN | with_reducible apply Box.drew)
  obtain ⟨_, _, _, _, _, _, _⟩ := Bw1_1.three
  go_wp2_with fail
  refine (HK.out _).mono ?_
  rintro e w2 ⟨rfl, hb2⟩
  have T : Below w.heap.size w w2 := by repeat (first | with_reducible exact own_refl _ | with_reducible assumption | with_reducible apply own_alloc | with_reducible apply own_drewN | with_reducible apply own_drew | ((with_reducible refine own_setCell ?_ ?_ _); rotate_left; focus (first | (simp; done) | (simp; omega))) | (with_reducible (refine own_trans ?_ (by assumption))))
  have Bw2_0 : Box w2 (w.heap.size) [.int .i64 a, .int .i64 b, .int .i64 c, .int .i64 d] := by refine Box.below ?_ hb2; repeat (first | with_reducible assumption | with_reducible exact Box.new _ _ _ | (with_reducible refine Box.newAt ?_ _ _; (simp; done)) | with_reducible apply Box.alloc | with_reducible apply Box.drewN | with_reducible apply Box.drew)
  obtain ⟨_, _, _, _, _, _, _, _, _⟩ := Bw2_0.four
  have Bw2_1 : Box w2 (w.heap.size + 1) [.int .i64 0, .int .i64 0, .int .i64 0] := by refine Box.below ?_ hb2; repeat (first | with_reducible assumption | with_reducible exact Box.new _ _ _ | (with_reducible refine Box.newAt ?_ _ _; (simp; done)) | with_reducible apply Box.alloc | with_reducible apply Box.drewN | with_reducible apply Box.drew)
  obtain ⟨_, _, _, _, _, _, _⟩ := Bw2_1.three
  have BF := Bw2_0
  have BZ := Bw2_1
  go_upto_region 5 with fail
  go_region_held3 (fun w' => w'.cell? ⟨w.heap.size, 0, none⟩ = some (.int .i64 a) ∧ w'.cell? ⟨w.heap.size, 1, none⟩ = some (.int .i64 b) ∧ w'.cell? ⟨w.heap.size, 2, none⟩ = some (.int .i64 c) ∧ w'.cell? ⟨w.heap.size, 3, none⟩ = some (.int .i64 d)) (go_keep)
    (first
      | (go_at_call 15; first | with_reducible refine (HA.out _).mono ?_ | with_reducible refine (HB.out _).mono ?_
         rintro e w3 ⟨rfl, rfl⟩))
  all_goals
    have T := own_drew T
    have BF := Box.drew BF
    have BZ := Box.drew BZ
    obtain ⟨_, _, _, _, _, _, _, _, _⟩ := BF.four
    have bf := BF.1
    have bz := BZ.1
    go_upto_region 6 with fail
    generalize World.drew w2 = wd at T BF BZ bf bz ⊢
    have n0 : ¬ (wd.heap.size = w.heap.size) := by omega
    obtain ⟨_, _, _, _, _, _, _, _, _⟩ := BF.four
    go_region_held3 (fun w' => w'.cell? ⟨w.heap.size, 0, none⟩ = some (.int .i64 a) ∧ w'.cell? ⟨w.heap.size, 1, none⟩ = some (.int .i64 b) ∧ w'.cell? ⟨w.heap.size, 2, none⟩ = some (.int .i64 c) ∧ w'.cell? ⟨w.heap.size, 3, none⟩ = some (.int .i64 d)) (go_keep)
      (fail)
  all_goals
    go_wp2_with fail
    refine (l05Is_is r _ _ _ HR.out _).mono ?_
    rintro e w4 ⟨rfl, hb4⟩
    have T : Below w.heap.size w w4 := by repeat (first | with_reducible exact own_refl _ | with_reducible assumption | with_reducible apply own_alloc | with_reducible apply own_drewN | with_reducible apply own_drew | ((with_reducible refine own_setCell ?_ ?_ _); rotate_left; focus (first | (simp; done) | (simp; omega))) | (with_reducible (refine own_trans ?_ (by assumption))))
    have BZ := (Box.drew (Box.alloc BZ _)).below hb4
    have BN := Box.below (Box.drew (Box.new _ _ _)) hb4
    have n1 := BN.1
    obtain ⟨_, _, _, _, _, _, _⟩ := BZ.three
    obtain ⟨_, _, _, _, _, _, _⟩ := BN.three
    clear HR
    rcases he with ⟨rfl, rfl, rfl, rfl, rfl⟩ | ⟨rfl, rfl, rfl, rfl, rfl⟩
    · go_wp2_with fail
      obtain ⟨_, e0, e1, e2, _, _, _⟩ := (BZ.put3 (.int .i64 (c.tdiv g)) (.int .i64 ((d - a).tdiv g)) (.int .i64 (-(b.tdiv g)))).three
      exact bodyPost_ret (v := .tuple #[(.agg #[.int .i64 (c.tdiv g), .int .i64 ((d - a).tdiv g), .int .i64 (-(b.tdiv g))]), (.int .i64 0)]) (by simp [results, Tryd.results5, go_sem, e0, e1, e2]) rfl ⟨rfl, by repeat (first | with_reducible exact own_refl _ | with_reducible assumption | with_reducible apply own_alloc | with_reducible apply own_drewN | with_reducible apply own_drew | ((with_reducible refine own_setCell ?_ ?_ _); rotate_left; focus (first | (simp; done) | (simp; omega))) | (with_reducible (refine own_trans ?_ (by assumption))))⟩
    · go_wp2_with fail
      obtain ⟨_, e0, e1, e2, _, _, _⟩ := (BZ.put3 (.int .i64 0) (.int .i64 0) (.int .i64 0)).three
      exact bodyPost_ret (v := .tuple #[(.agg #[.int .i64 0, .int .i64 0, .int .i64 0]), (.int .i64 3)]) (by simp [results, Tryd.results5, go_sem, e0, e1, e2]) rfl ⟨rfl, by repeat (first | with_reducible exact own_refl _ | with_reducible assumption | with_reducible apply own_alloc | with_reducible apply own_drewN | with_reducible apply own_drew | ((with_reducible refine own_setCell ?_ ?_ _); rotate_left; focus (first | (simp; done) | (simp; omega))) | (with_reducible (refine own_trans ?_ (by assumption))))⟩
end Go.Proofs.YtfpgdbdgglbleaaDoor
