/- Discriminants, values, and what matrices make of forms, on both sides. No condition but the bounds of the numbers. -/
import Derived.Test.YtfpgdbdgglbleaaFm
namespace Go.Proofs.Ytfpgdbdgglbleaa
open Go.ChangeShapes Go.WideShapes Go.ChangeAt Go.RowKit

def disc (a b c : Int) : Int := b * b - 4 * a * c
def vq (a b c x y : Int) : Int := a * x * x + b * x * y + c * y * y
def mq (a b c p q r s : Int) : Int := 2 * a * p * q + b * (p * s + q * r) + 2 * c * r * s
theorem fe_mul {x y : Int} (hx : FE x) (hy : FE y) : -1000000000000 ≤ x * y ∧ x * y ≤ 1000000000000 := by
  have := mul_bd hx hy
  omega
theorem fe_mul3 {x y z : Int} (hx : FE x) (hy : FE y) (hz : FE z) : -1000000000000000000 ≤ x * y * z ∧ x * y * z ≤ 1000000000000000000 := by
  have := mul_bd (fe_mul hx hy) hz
  omega
theorem disc_bd {a b c : Int} (ha : FE a) (hb : FE b) (hc : FE c) : -5000000000000 ≤ disc a b c ∧ disc a b c ≤ 5000000000000 := by
  have h1 := fe_mul hb hb
  have h2 := fe_mul ha hc
  have e : 4 * a * c = 4 * (a * c) := Int.mul_assoc _ _ _
  unfold disc
  omega
theorem vq_bd {a b c x y : Int} (ha : FE a) (hb : FE b) (hc : FE c) (hx : FE x) (hy : FE y) : -3000000000000000000 ≤ vq a b c x y ∧ vq a b c x y ≤ 3000000000000000000 := by
  have h1 := fe_mul3 ha hx hx
  have h2 := fe_mul3 hb hx hy
  have h3 := fe_mul3 hc hy hy
  unfold vq
  omega

set_option maxHeartbeats 1000000 in
theorem discriminant_is (d a b c : Int) (hd : disc a b c = d) (ha : FE a) (hb : FE b) (hc : FE c) (w : World) :
    Calls Try.prog 36 #[(.agg #[.int .i64 a, .int .i64 b, .int .i64 c])] w fun e w' => e = .returned (.int .i64 d) ∧ Below w.heap.size w w' := by
  have h1 := fe_mul hb hb
  have h2 := fe_mul ha hc
  have e : 4 * a * c = 4 * (a * c) := Int.mul_assoc _ _ _
  have h3 : -4000000000000 ≤ 4 * a * c ∧ 4 * a * c ≤ 4000000000000 := by omega
  have HD := Lib.hid (show b * b - 4 * a * c = d from hd)
  obtain ⟨_, _⟩ := ha
  clear h2 e hb hc hd
  go_enter Try.func36, Try.ntmps36
  go_wp2
  go_ret
  exact ⟨ret_int HD.out, by repeat (first | with_reducible exact own_refl _ | with_reducible assumption | with_reducible apply own_alloc | with_reducible apply own_drewN | with_reducible apply own_drew | ((with_reducible refine own_setCell ?_ ?_ _); rotate_left; focus (first | (simp; done) | (simp; omega))) | (with_reducible (refine own_trans ?_ (by assumption))))⟩
set_option maxHeartbeats 1000000 in
theorem l05Disc_is (d a b c : Int) (hd : disc a b c = d) (ha : FE a) (hb : FE b) (hc : FE c) (w : World) :
    Calls Try.prog 35 #[(.agg #[.int .i64 a, .int .i64 b, .int .i64 c])] w fun e w' => e = .returned (.int .i64 d) ∧ Below w.heap.size w w' := by
  have h1 := fe_mul hb hb
  have h2 := fe_mul ha hc
  have e : 4 * a * c = 4 * (a * c) := Int.mul_assoc _ _ _
  have h3 : -4000000000000 ≤ 4 * a * c ∧ 4 * a * c ≤ 4000000000000 := by omega
  have HD := Lib.hid (show b * b - 4 * a * c = d from hd)
  obtain ⟨_, _⟩ := ha
  clear h2 e hb hc hd
  go_enter Try.func35, Try.ntmps35
  go_wp2
  go_ret
  exact ⟨ret_int HD.out, by repeat (first | with_reducible exact own_refl _ | with_reducible assumption | with_reducible apply own_alloc | with_reducible apply own_drewN | with_reducible apply own_drew | ((with_reducible refine own_setCell ?_ ?_ _); rotate_left; focus (first | (simp; done) | (simp; omega))) | (with_reducible (refine own_trans ?_ (by assumption))))⟩
set_option maxHeartbeats 1000000 in
theorem valueAt_is (v a b c x y : Int) (hv : vq a b c x y = v) (ha : FE a) (hb : FE b) (hc : FE c) (hx : FE x) (hy : FE y) (w : World) :
    Calls Try.prog 40 #[(.agg #[.int .i64 a, .int .i64 b, .int .i64 c]), (.int .i64 x), (.int .i64 y)] w fun e w' => e = .returned (.int .i64 v) ∧ Below w.heap.size w w' := by
  have h1 := fe_mul ha hx
  have h2 := fe_mul3 ha hx hx
  have h3 := fe_mul hb hx
  have h4 := fe_mul3 hb hx hy
  have h5 := fe_mul hc hy
  have h6 := fe_mul3 hc hy hy
  have HD := Lib.hid (show a * x * x + b * x * y + c * y * y = v from hv)
  clear ha hb hc hx hy hv
  go_enter Try.func40, Try.ntmps40
  go_wp2
  go_ret
  exact ⟨ret_int HD.out, by repeat (first | with_reducible exact own_refl _ | with_reducible assumption | with_reducible apply own_alloc | with_reducible apply own_drewN | with_reducible apply own_drew | ((with_reducible refine own_setCell ?_ ?_ _); rotate_left; focus (first | (simp; done) | (simp; omega))) | (with_reducible (refine own_trans ?_ (by assumption))))⟩
set_option maxHeartbeats 1000000 in
theorem l05Value_is (v a b c x y : Int) (hv : vq a b c x y = v) (ha : FE a) (hb : FE b) (hc : FE c) (hx : FE x) (hy : FE y) (w : World) :
    Calls Try.prog 38 #[(.agg #[.int .i64 a, .int .i64 b, .int .i64 c]), (.int .i64 x), (.int .i64 y)] w fun e w' => e = .returned (.int .i64 v) ∧ Below w.heap.size w w' := by
  have h1 := fe_mul ha hx
  have h2 := fe_mul3 ha hx hx
  have h3 := fe_mul hb hx
  have h4 := fe_mul3 hb hx hy
  have h5 := fe_mul hc hy
  have h6 := fe_mul3 hc hy hy
  have HD := Lib.hid (show a * x * x + b * x * y + c * y * y = v from hv)
  clear ha hb hc hx hy hv
  go_enter Try.func38, Try.ntmps38
  go_wp2
  go_ret
  exact ⟨ret_int HD.out, by repeat (first | with_reducible exact own_refl _ | with_reducible assumption | with_reducible apply own_alloc | with_reducible apply own_drewN | with_reducible apply own_drew | ((with_reducible refine own_setCell ?_ ?_ _); rotate_left; focus (first | (simp; done) | (simp; omega))) | (with_reducible (refine own_trans ?_ (by assumption))))⟩

theorem mq_bds {a b c p q r s : Int} (ha : FE a) (hb : FE b) (hc : FE c) (hp : FE p) (hq : FE q) (hr : FE r) (hs : FE s) :
    (-2000000 ≤ 2 * a ∧ 2 * a ≤ 2000000) ∧ (-2000000000000 ≤ 2 * a * p ∧ 2 * a * p ≤ 2000000000000) ∧ (-2000000000000000000 ≤ 2 * a * p * q ∧ 2 * a * p * q ≤ 2000000000000000000) ∧
    (-1000000000000 ≤ p * s ∧ p * s ≤ 1000000000000) ∧ (-1000000000000 ≤ q * r ∧ q * r ≤ 1000000000000) ∧ (-2000000000000000000 ≤ b * (p * s + q * r) ∧ b * (p * s + q * r) ≤ 2000000000000000000) ∧
    (-2000000 ≤ 2 * c ∧ 2 * c ≤ 2000000) ∧ (-2000000000000 ≤ 2 * c * r ∧ 2 * c * r ≤ 2000000000000) ∧ (-2000000000000000000 ≤ 2 * c * r * s ∧ 2 * c * r * s ≤ 2000000000000000000) := by
  have a2 : -2000000 ≤ 2 * a ∧ 2 * a ≤ 2000000 := by unfold FE at ha; omega
  have c2 : -2000000 ≤ 2 * c ∧ 2 * c ≤ 2000000 := by unfold FE at hc; omega
  have a3 := mul_bd a2 hp
  have a4 := mul_bd (A := 2000000000000) (by omega) hq (a := 2 * a * p)
  have c3 := mul_bd c2 hr
  have c4 := mul_bd (A := 2000000000000) (by omega) hs (a := 2 * c * r)
  have p1 := fe_mul hp hs
  have p2 := fe_mul hq hr
  have b1 := mul_bd hb (D := 2000000000000) (d := p * s + q * r) (by omega)
  refine ⟨a2, by omega, by omega, p1, p2, by omega, c2, by omega, by omega⟩

set_option maxHeartbeats 4000000 in
theorem formMadeBy_is (u v z a b c p q r s : Int) (hu : vq a b c p r = u) (hv : mq a b c p q r s = v) (hz : vq a b c q s = z) (ha : FE a) (hb : FE b) (hc : FE c) (hp : FE p) (hq : FE q) (hr : FE r) (hs : FE s) (w : World) :
    Calls Try.prog 45 #[(.agg #[.int .i64 p, .int .i64 q, .int .i64 r, .int .i64 s]), (.agg #[.int .i64 a, .int .i64 b, .int .i64 c])] w fun e w' => e = .returned (.agg #[.int .i64 u, .int .i64 v, .int .i64 z]) ∧ Below w.heap.size w w' := by
  have vA := Lib.hid (fun w => valueAt_is u a b c p r hu ha hb hc hp hr w)
  have vB := Lib.hid (fun w => valueAt_is z a b c q s hz ha hb hc hq hs w)
  obtain ⟨k1, k2, k3, k4, k5, k6, k7, k8, k9⟩ := mq_bds ha hb hc hp hq hr hs
  have HV : 2 * a * p * q + b * (p * s + q * r) + 2 * c * r * s = v := hv
  clear hu hv hz ha hb hc hp hq hr hs
  go_enter Try.func45, Try.ntmps45
  go_upto_region 1 with fail
  have BM : Box (((w.alloc (.cells #[.int .i64 p, .int .i64 q, .int .i64 r, .int .i64 s] 34)).alloc (.cells #[.int .i64 a, .int .i64 b, .int .i64 c] 24)).alloc (.cells #[.int .i64 0, .int .i64 0, .int .i64 0] 24)) w.heap.size [.int .i64 p, .int .i64 q, .int .i64 r, .int .i64 s] := Box.alloc (Box.alloc (Box.new _ _ _) _) _
  have BF : Box (((w.alloc (.cells #[.int .i64 p, .int .i64 q, .int .i64 r, .int .i64 s] 34)).alloc (.cells #[.int .i64 a, .int .i64 b, .int .i64 c] 24)).alloc (.cells #[.int .i64 0, .int .i64 0, .int .i64 0] 24)) (w.heap.size + 1) [.int .i64 a, .int .i64 b, .int .i64 c] := Box.alloc (Box.newAt (by simp) _ _) _
  have BZ : Box (((w.alloc (.cells #[.int .i64 p, .int .i64 q, .int .i64 r, .int .i64 s] 34)).alloc (.cells #[.int .i64 a, .int .i64 b, .int .i64 c] 24)).alloc (.cells #[.int .i64 0, .int .i64 0, .int .i64 0] 24)) (w.heap.size + 1 + 1) [.int .i64 0, .int .i64 0, .int .i64 0] := Box.newAt (by simp) _ _
  have T : Below w.heap.size w (((w.alloc (.cells #[.int .i64 p, .int .i64 q, .int .i64 r, .int .i64 s] 34)).alloc (.cells #[.int .i64 a, .int .i64 b, .int .i64 c] 24)).alloc (.cells #[.int .i64 0, .int .i64 0, .int .i64 0] 24)) := own_alloc (own_alloc (own_alloc (own_refl _) _) _) _
  obtain ⟨_, _, _, _, _, _, _, _, _⟩ := BM.four
  go_quiet (fail)
  all_goals
    have T := below_drewN' T nq
    have BF := Box.drewN BF nq
    have BZ := Box.drewN BZ nq
    generalize World.drewN _ nq = wd at T BF BZ ⊢
    clear BM
    obtain ⟨_, _, _, _, _, _, _⟩ := BF.three
    obtain ⟨_, _, _, _, _, _, _⟩ := BZ.three
    go_upto_region 3 with fail
    clear k1 k2 k3 k4 k5 k6 k7 k8 k9
    go_region_held3 (fun w' => w'.cell? ⟨w.heap.size + 1, 0, none⟩ = some (.int .i64 a) ∧ w'.cell? ⟨w.heap.size + 1, 1, none⟩ = some (.int .i64 b) ∧ w'.cell? ⟨w.heap.size + 1, 2, none⟩ = some (.int .i64 c)) (go_keep)
      (first
        | (go_at_call 40; first | with_reducible refine (vA.out _).mono ?_ | with_reducible refine (vB.out _).mono ?_
           rintro e w2 ⟨rfl, hb2⟩
           have T := (by first | exact own_trans T hb2 | exact own_trans (own_drew T) hb2 : Below w.heap.size w w2)
           have BF := Box.below (by first | exact BF | exact Box.drew BF) hb2
           have BZ := Box.below (by first | exact BZ | exact Box.drew BZ) hb2
           obtain ⟨_, _, _, _, _, _, _⟩ := BF.three
           obtain ⟨_, _, _, _, _, _, _⟩ := BZ.three))
    all_goals
      go_wp2_with fail
      obtain ⟨_, e0, e1, e2, _, _, _⟩ := (BZ.put3 (.int .i64 u) (.int .i64 v) (.int .i64 z)).three
      exact bodyPost_ret (v := (.agg #[.int .i64 u, .int .i64 v, .int .i64 z])) (by simp [results, Try.results45, go_sem, e0, e1, e2]) rfl ⟨rfl, by repeat (first | with_reducible exact own_refl _ | with_reducible assumption | with_reducible apply own_alloc | with_reducible apply own_drewN | with_reducible apply own_drew | ((with_reducible refine own_setCell ?_ ?_ _); rotate_left; focus (first | (simp; done) | (simp; omega))) | (with_reducible (refine own_trans ?_ (by assumption))))⟩
theorem wrap_in {x : Int} (h : -9223372036854775808 ≤ x ∧ x ≤ 9223372036854775807) : IntKind.i64.wrap x = x := IntWalk.i64_in _ h
set_option maxHeartbeats 4000000 in
theorem l05Apply_is (u v z a b c p q r s : Int) (hu : vq a b c p r = u) (hv : mq a b c p q r s = v) (hz : vq a b c q s = z) (ha : FE a) (hb : FE b) (hc : FE c) (hp : FE p) (hq : FE q) (hr : FE r) (hs : FE s) (w : World) :
    Calls Try.prog 42 #[(.agg #[.int .i64 a, .int .i64 b, .int .i64 c]), (.agg #[.int .i64 p, .int .i64 q, .int .i64 r, .int .i64 s])] w fun e w' => e = .returned (.agg #[.int .i64 u, .int .i64 v, .int .i64 z]) ∧ Below w.heap.size w w' := by
  have vA := Lib.hid (fun w => l05Value_is u a b c p r hu ha hb hc hp hr w)
  have vB := Lib.hid (fun w => l05Value_is z a b c q s hz ha hb hc hq hs w)
  obtain ⟨k1, k2, k3, k4, k5, k6, k7, k8, k9⟩ := mq_bds ha hb hc hp hq hr hs
  have HV : Hid (2 * a * p * q + b * (p * s + q * r) + 2 * c * r * s = v) := Lib.hid hv
  have m1 := wrap_in (x := 2 * a) (by omega)
  have m2 := wrap_in (x := 2 * a * p) (by omega)
  have m3 := wrap_in (x := 2 * a * p * q) (by omega)
  have m4 := wrap_in (x := p * s) (by omega)
  have m5 := wrap_in (x := q * r) (by omega)
  have m6 := wrap_in (x := p * s + q * r) (by omega)
  have m7 := wrap_in (x := b * (p * s + q * r)) (by omega)
  have m8 := wrap_in (x := 2 * a * p * q + b * (p * s + q * r)) (by omega)
  have m9 := wrap_in (x := 2 * c) (by omega)
  have m10 := wrap_in (x := 2 * c * r) (by omega)
  have m11 := wrap_in (x := 2 * c * r * s) (by omega)
  have m12 := wrap_in (x := 2 * a * p * q + b * (p * s + q * r) + 2 * c * r * s) (by omega)
  clear hu hv hz ha hb hc hp hq hr hs k1 k2 k3 k4 k5 k6 k7 k8 k9
  go_enter Try.func42, Try.ntmps42
  go_upto_region 1 with fail
  have BF : Box (((w.alloc (.cells #[.int .i64 a, .int .i64 b, .int .i64 c] 24)).alloc (.cells #[.int .i64 p, .int .i64 q, .int .i64 r, .int .i64 s] 34)).alloc (.cells #[.int .i64 0, .int .i64 0, .int .i64 0] 24)) w.heap.size [.int .i64 a, .int .i64 b, .int .i64 c] := Box.alloc (Box.alloc (Box.new _ _ _) _) _
  have BM : Box (((w.alloc (.cells #[.int .i64 a, .int .i64 b, .int .i64 c] 24)).alloc (.cells #[.int .i64 p, .int .i64 q, .int .i64 r, .int .i64 s] 34)).alloc (.cells #[.int .i64 0, .int .i64 0, .int .i64 0] 24)) (w.heap.size + 1) [.int .i64 p, .int .i64 q, .int .i64 r, .int .i64 s] := Box.alloc (Box.newAt (by simp) _ _) _
  have BZ : Box (((w.alloc (.cells #[.int .i64 a, .int .i64 b, .int .i64 c] 24)).alloc (.cells #[.int .i64 p, .int .i64 q, .int .i64 r, .int .i64 s] 34)).alloc (.cells #[.int .i64 0, .int .i64 0, .int .i64 0] 24)) (w.heap.size + 1 + 1) [.int .i64 0, .int .i64 0, .int .i64 0] := Box.newAt (by simp) _ _
  have T : Below w.heap.size w (((w.alloc (.cells #[.int .i64 a, .int .i64 b, .int .i64 c] 24)).alloc (.cells #[.int .i64 p, .int .i64 q, .int .i64 r, .int .i64 s] 34)).alloc (.cells #[.int .i64 0, .int .i64 0, .int .i64 0] 24)) := own_alloc (own_alloc (own_alloc (own_refl _) _) _) _
  generalize World.alloc _ (.cells #[.int .i64 0, .int .i64 0, .int .i64 0] 24) = wd at T BF BM BZ ⊢
  obtain ⟨_, _, _, _, _, _, _, _, _⟩ := BM.four
  obtain ⟨_, _, _, _, _, _, _⟩ := BF.three
  obtain ⟨_, _, _, _, _, _, _⟩ := BZ.three
  have n0 : ¬ (w.heap.size + 1 + 1 = w.heap.size) := by omega
  have n1 : ¬ (w.heap.size = w.heap.size + 1 + 1) := by omega
  go_region_held3 (fun w' => w'.cell? ⟨w.heap.size, 0, none⟩ = some (.int .i64 a) ∧ w'.cell? ⟨w.heap.size, 1, none⟩ = some (.int .i64 b) ∧ w'.cell? ⟨w.heap.size, 2, none⟩ = some (.int .i64 c) ∧
      w'.cell? ⟨w.heap.size + 1, 0, none⟩ = some (.int .i64 p) ∧ w'.cell? ⟨w.heap.size + 1, 1, none⟩ = some (.int .i64 q) ∧ w'.cell? ⟨w.heap.size + 1, 2, none⟩ = some (.int .i64 r) ∧ w'.cell? ⟨w.heap.size + 1, 3, none⟩ = some (.int .i64 s)) (go_keep)
    (first
      | (go_at_call 38; first | with_reducible refine (vA.out _).mono ?_ | with_reducible refine (vB.out _).mono ?_
         rintro e w2 ⟨rfl, hb2⟩
         have T := (by first | exact own_trans T hb2 | exact own_trans (own_drew T) hb2 : Below w.heap.size w w2)
         have BF := Box.below (by first | exact BF | exact Box.drew BF) hb2
         have BM := Box.below (by first | exact BM | exact Box.drew BM) hb2
         have BZ := Box.below (by first | exact BZ | exact Box.drew BZ) hb2
         obtain ⟨_, _, _, _, _, _, _, _, _⟩ := BM.four
         obtain ⟨_, _, _, _, _, _, _⟩ := BF.three
         obtain ⟨_, _, _, _, _, _, _⟩ := BZ.three))
  all_goals
    go_wp2_with fail
    have HV := HV.out
    obtain ⟨_, e0, e1, e2, _, _, _⟩ := (BZ.put3 (.int .i64 u) (.int .i64 v) (.int .i64 z)).three
    simp only [HV]
    exact bodyPost_ret (v := (.agg #[.int .i64 u, .int .i64 v, .int .i64 z])) (by simp [results, Try.results42, go_sem, e0, e1, e2]) rfl ⟨rfl, by repeat (first | with_reducible exact own_refl _ | with_reducible assumption | with_reducible apply own_alloc | with_reducible apply own_drewN | with_reducible apply own_drew | ((with_reducible refine own_setCell ?_ ?_ _); rotate_left; focus (first | (simp; done) | (simp; omega))) | (with_reducible (refine own_trans ?_ (by assumption))))⟩
end Go.Proofs.Ytfpgdbdgglbleaa
