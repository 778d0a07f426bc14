/- TripleOfPath: both sides. -/
import Derived.Test.YtkeadknbdihkmaaDoorNop
import Derived.Test.YtkeadknbdihkmaaDoorNbo
namespace Go.Proofs.YtkeadknbdihkmaaDoor
open Go.ChangeShapes Go.WideShapes Go.ChangeAt Go.RowKit

set_option maxHeartbeats 1000000 in
theorem implTop_bad (s : ByteArray) (v k : Int) (hk : ¬ k = 0) (hs : ∀ w, Idn w → Calls Tryd.prog 27 #[.string s] w (RetN v k w)) (w : World) (hid : Idn w) : Calls Tryd.prog 29 #[.string s] w (RetT 0 0 0 k w) := by
  have HS := Lib.hid hs
  clear hs
  have T0 : Below w.heap.size w (w.alloc (.cells #[.int .i64 0, .int .i64 0, .int .i64 0] 26)) := by repeat (first | with_reducible exact own_refl _ | with_reducible assumption | with_reducible apply own_alloc | with_reducible apply own_drewN | with_reducible apply own_drew | ((with_reducible refine own_setCell ?_ ?_ _); rotate_left; focus (first | (simp; done) | (simp; omega))) | (with_reducible (refine own_trans ?_ (by assumption))))
  have I0 := Lib.hid (Rd.below hid T0)
  go_enter Tryd.func29, Tryd.ntmps29
  go_wp2_with fail
  refine (HS.out _ I0.out).mono ?_
  rintro e w1 ⟨rfl, hb1⟩
  have R1 : Box w1 w.heap.size [.int .i64 0, .int .i64 0, .int .i64 0] := Box.below (Box.new _ _ _) hb1
  obtain ⟨_, _, _, _, _, _, _⟩ := R1.three
  go_wp2
  have Z := R1.put3 (.int .i64 0) (.int .i64 0) (.int .i64 0)
  obtain ⟨_, d0, d1, d2, _, _, _⟩ := Z.three
  exact bodyPost_ret (v := .tuple #[(.agg #[.int .i64 0, .int .i64 0, .int .i64 0]), (.int .i64 k)]) (by simp [results, Tryd.results29, go_sem, d0, d1, d2]) rfl ⟨rfl, by repeat (first | with_reducible exact own_refl _ | with_reducible assumption | with_reducible apply own_alloc | with_reducible apply own_drewN | with_reducible apply own_drew | ((with_reducible refine own_setCell ?_ ?_ _); rotate_left; focus (first | (simp; done) | (simp; omega))) | (with_reducible (refine own_trans ?_ (by assumption))))⟩
set_option maxHeartbeats 2000000 in
theorem implTop_yes (s u v : ByteArray) (n x y k1 k2 p q r : Int) (hp : lo3 x y n = p) (hq : mi3 x y n = q) (hr : hi3 x y n = r)
    (hs : ∀ w, Idn w → Calls Tryd.prog 27 #[.string s] w (RetN n 0 w))
    (hw : ∀ w, Calls Tryd.prog 57 #[.string s] w fun e w' => e = .returned (.tuple #[.agg #[.string u, .string v], (.int .i64 0)]) ∧ Below w.heap.size w w')
    (hu : ∀ w, Idn w → Calls Tryd.prog 55 #[.string u] w (RetN x k1 w)) (hv : ∀ w, Idn w → Calls Tryd.prog 55 #[.string v] w (RetN y k2 w)) (w : World) (hid : Idn w) :
    Calls Tryd.prog 29 #[.string s] w (RetT p q r 0 w) := by
  have HS := Lib.hid hs
  have HW := Lib.hid hw
  have HU := Lib.hid hu
  have HV := Lib.hid hv
  have HO := Lib.hid (fun w => inOrder_is x y n p q r hp hq hr w)
  clear hs hw hu hv hp hq hr
  have T0 : Below w.heap.size w (w.alloc (.cells #[.int .i64 0, .int .i64 0, .int .i64 0] 26)) := by repeat (first | with_reducible exact own_refl _ | with_reducible assumption | with_reducible apply own_alloc | with_reducible apply own_drewN | with_reducible apply own_drew | ((with_reducible refine own_setCell ?_ ?_ _); rotate_left; focus (first | (simp; done) | (simp; omega))) | (with_reducible (refine own_trans ?_ (by assumption))))
  have I0 := Lib.hid (Rd.below hid T0)
  go_enter Tryd.func29, Tryd.ntmps29
  go_wp2_with fail
  refine (HS.out _ I0.out).mono ?_
  rintro e w1 ⟨rfl, hb1⟩
  have R1 : Box w1 w.heap.size [.int .i64 0, .int .i64 0, .int .i64 0] := Box.below (Box.new _ _ _) hb1
  have T1 := own_trans T0 hb1
  go_wp2_with fail
  refine (HW.out _).mono ?_
  rintro e w2 ⟨rfl, hb2⟩
  have R2 := (R1.below hb2).alloc (.cells #[.string u, .string v] 74)
  have T2 := own_alloc (own_trans T1 hb2) (.cells #[.string u, .string v] 74)
  have B2 : Box (w2.alloc (.cells #[.string u, .string v] 74)) w2.heap.size [.string u, .string v] := Box.new _ _ _
  have I2 := Lib.hid (Rd.below hid T2)
  obtain ⟨_, _, _, _, _⟩ := B2.two
  go_wp2_with fail
  refine (HU.out _ I2.out).mono ?_
  rintro e w3 ⟨rfl, hb3⟩
  have R3 := R2.below hb3
  have T3 := own_trans T2 hb3
  have B3 := B2.below hb3
  have I3 := Lib.hid (Rd.below hid T3)
  obtain ⟨_, _, _, _, _⟩ := B3.two
  go_wp2_with fail
  refine (HV.out _ I3.out).mono ?_
  rintro e w4 ⟨rfl, hb4⟩
  have R4 := R3.below hb4
  have T4 := own_trans T3 hb4
  go_wp2_with fail
  refine (HO.out _).mono ?_
  rintro e w5 ⟨rfl, hb5⟩
  have R5 := R4.below hb5
  have T5 := own_trans T4 hb5
  obtain ⟨_, _, _, _, _, _, _⟩ := R5.three
  go_wp2
  have Z := R5.put3 (.int .i64 p) (.int .i64 q) (.int .i64 r)
  obtain ⟨_, d0, d1, d2, _, _, _⟩ := Z.three
  exact bodyPost_ret (v := .tuple #[(.agg #[.int .i64 p, .int .i64 q, .int .i64 r]), (.int .i64 0)]) (by simp [results, Tryd.results29, go_sem, d0, d1, d2]) rfl ⟨rfl, by repeat (first | with_reducible exact own_refl _ | with_reducible assumption | with_reducible apply own_alloc | with_reducible apply own_drewN | with_reducible apply own_drew | ((with_reducible refine own_setCell ?_ ?_ _); rotate_left; focus (first | (simp; done) | (simp; omega))) | (with_reducible (refine own_trans ?_ (by assumption))))⟩
set_option maxHeartbeats 1000000 in
theorem l09Triple_bad (s : ByteArray) (k : Int) (hk : ¬ k = 0) (hs : ∀ w, Calls Tryd.prog 53 #[.string s] w (RetP ⟨#[]⟩ ⟨#[]⟩ k w)) (w : World) : Calls Tryd.prog 56 #[.string s] w (RetT 0 0 0 k w) := by
  have HS := Lib.hid hs
  clear hs
  go_enter Tryd.func56, Tryd.ntmps56
  go_wp2_with fail
  refine (HS.out _).mono ?_
  rintro e w1 ⟨rfl, hb1⟩
  have R1 : Box w1 w.heap.size [.int .i64 0, .int .i64 0, .int .i64 0] := Box.below (Box.new _ _ _) hb1
  obtain ⟨_, _, _, _, _, _, _⟩ := R1.three
  go_wp2
  have Z := R1.put3 (.int .i64 0) (.int .i64 0) (.int .i64 0)
  obtain ⟨_, d0, d1, d2, _, _, _⟩ := Z.three
  exact bodyPost_ret (v := .tuple #[(.agg #[.int .i64 0, .int .i64 0, .int .i64 0]), (.int .i64 k)]) (by simp [results, Tryd.results56, go_sem, d0, d1, d2]) rfl ⟨rfl, by repeat (first | with_reducible exact own_refl _ | with_reducible assumption | with_reducible apply own_alloc | with_reducible apply own_drewN | with_reducible apply own_drew | ((with_reducible refine own_setCell ?_ ?_ _); rotate_left; focus (first | (simp; done) | (simp; omega))) | (with_reducible (refine own_trans ?_ (by assumption))))⟩
set_option maxHeartbeats 1000000 in
theorem l09Triple_lim (s u v m : ByteArray) (hm : u ++ v = m) (hcc : ¬ 9223372036854775807 < u.size + v.size) (r : Mat) (k : Int) (hk : ¬ k = 0) (hs : ∀ w, Calls Tryd.prog 53 #[.string s] w (RetP u v 0 w))
    (hc : ∀ w, Calls Tryd.prog 49 #[.string m] w (RetM r k w)) (w : World) : Calls Tryd.prog 56 #[.string s] w (RetT 0 0 0 k w) := by
  have HS := Lib.hid hs
  have HC := Lib.hid hc
  have HP := Lib.hid hm
  clear hs hc hm
  go_enter Tryd.func56, Tryd.ntmps56
  go_wp2_with fail
  refine (HS.out _).mono ?_
  rintro e w1 ⟨rfl, hb1⟩
  have R1 : Box w1 w.heap.size [.int .i64 0, .int .i64 0, .int .i64 0] := Box.below (Box.new _ _ _) hb1
  go_wp2_with fail
  rw [HP.out]
  refine (HC.out _).mono ?_
  rintro e w2 ⟨rfl, hb2⟩
  have R2 := (R1.below hb2).alloc (.cells #[.int .i64 r.a, .int .i64 r.b, .int .i64 r.c, .int .i64 r.d] 35)
  obtain ⟨_, _, _, _, _, _, _⟩ := R2.three
  go_wp2
  have Z := R2.put3 (.int .i64 0) (.int .i64 0) (.int .i64 0)
  obtain ⟨_, d0, d1, d2, _, _, _⟩ := Z.three
  exact bodyPost_ret (v := .tuple #[(.agg #[.int .i64 0, .int .i64 0, .int .i64 0]), (.int .i64 k)]) (by simp [results, Tryd.results56, go_sem, d0, d1, d2]) rfl ⟨rfl, by repeat (first | with_reducible exact own_refl _ | with_reducible assumption | with_reducible apply own_alloc | with_reducible apply own_drewN | with_reducible apply own_drew | ((with_reducible refine own_setCell ?_ ?_ _); rotate_left; focus (first | (simp; done) | (simp; omega))) | (with_reducible (refine own_trans ?_ (by assumption))))⟩
set_option maxHeartbeats 2000000 in
theorem l09Triple_yes (s u v m : ByteArray) (hm : u ++ v = m) (hcc : ¬ 9223372036854775807 < u.size + v.size) (r x y : Mat) (k1 k2 : Int) (p q t : Int) (br : Bd r.b) (bx : Bd x.b) (by_ : Bd y.b) (hp : lo3 x.b y.b r.b = p) (hq : mi3 x.b y.b r.b = q) (ht : hi3 x.b y.b r.b = t)
    (hs : ∀ w, Calls Tryd.prog 53 #[.string s] w (RetP u v 0 w))
    (hc : ∀ w, Calls Tryd.prog 49 #[.string m] w (RetM r 0 w)) (hx : ∀ w, Calls Tryd.prog 49 #[.string u] w (RetM x k1 w)) (hy : ∀ w, Calls Tryd.prog 49 #[.string v] w (RetM y k2 w)) (w : World) : Calls Tryd.prog 56 #[.string s] w (RetT p q t 0 w) := by
  have HS := Lib.hid hs
  have HC := Lib.hid hc
  have HX := Lib.hid hx
  have HY := Lib.hid hy
  have HP := Lib.hid hm
  have HO := Lib.hid (fun w => l09Sorted_is x.b y.b r.b p q t bx by_ br hp hq ht w)
  clear hs hc hm hx hy br bx by_ hp hq ht
  go_enter Tryd.func56, Tryd.ntmps56
  go_wp2_with fail
  refine (HS.out _).mono ?_
  rintro e w1 ⟨rfl, hb1⟩
  have R1 : Box w1 w.heap.size [.int .i64 0, .int .i64 0, .int .i64 0] := Box.below (Box.new _ _ _) hb1
  have T1 : Below w.heap.size w w1 := by repeat (first | with_reducible exact own_refl _ | with_reducible assumption | with_reducible apply own_alloc | with_reducible apply own_drewN | with_reducible apply own_drew | ((with_reducible refine own_setCell ?_ ?_ _); rotate_left; focus (first | (simp; done) | (simp; omega))) | (with_reducible (refine own_trans ?_ (by assumption))))
  go_wp2_with fail
  rw [HP.out]
  refine (HC.out _).mono ?_
  rintro e w2 ⟨rfl, hb2⟩
  have R2 := (R1.below hb2).alloc (.cells #[.int .i64 r.a, .int .i64 r.b, .int .i64 r.c, .int .i64 r.d] 35)
  have T2 := own_alloc (own_trans T1 hb2) (.cells #[.int .i64 r.a, .int .i64 r.b, .int .i64 r.c, .int .i64 r.d] 35)
  have A2 : Box (w2.alloc (.cells #[.int .i64 r.a, .int .i64 r.b, .int .i64 r.c, .int .i64 r.d] 35)) w2.heap.size [.int .i64 r.a, .int .i64 r.b, .int .i64 r.c, .int .i64 r.d] := Box.new _ _ _
  go_wp2_with fail
  refine (HX.out _).mono ?_
  rintro e w3 ⟨rfl, hb3⟩
  have R3 := (R2.below hb3).alloc (.cells #[.int .i64 x.a, .int .i64 x.b, .int .i64 x.c, .int .i64 x.d] 35)
  have A3 := (A2.below hb3).alloc (.cells #[.int .i64 x.a, .int .i64 x.b, .int .i64 x.c, .int .i64 x.d] 35)
  have T3 := own_alloc (own_trans T2 hb3) (.cells #[.int .i64 x.a, .int .i64 x.b, .int .i64 x.c, .int .i64 x.d] 35)
  have C3 : Box (w3.alloc (.cells #[.int .i64 x.a, .int .i64 x.b, .int .i64 x.c, .int .i64 x.d] 35)) w3.heap.size [.int .i64 x.a, .int .i64 x.b, .int .i64 x.c, .int .i64 x.d] := Box.new _ _ _
  go_wp2_with fail
  refine (HY.out _).mono ?_
  rintro e w4 ⟨rfl, hb4⟩
  have R4 := (R3.below hb4).alloc (.cells #[.int .i64 y.a, .int .i64 y.b, .int .i64 y.c, .int .i64 y.d] 35)
  have A4 := (A3.below hb4).alloc (.cells #[.int .i64 y.a, .int .i64 y.b, .int .i64 y.c, .int .i64 y.d] 35)
  have C4 := (C3.below hb4).alloc (.cells #[.int .i64 y.a, .int .i64 y.b, .int .i64 y.c, .int .i64 y.d] 35)
  have T4 := own_alloc (own_trans T3 hb4) (.cells #[.int .i64 y.a, .int .i64 y.b, .int .i64 y.c, .int .i64 y.d] 35)
  obtain ⟨_, _, _, _, _, _, _, _, _⟩ := A4.four
  obtain ⟨_, _, _, _, _, _, _, _, _⟩ := C4.four
  go_wp2_with fail
  refine (HO.out _).mono ?_
  rintro e w5 ⟨rfl, hb5⟩
  have R5 := R4.below hb5
  have T5 := own_trans T4 hb5
  obtain ⟨_, _, _, _, _, _, _⟩ := R5.three
  go_wp2
  have Z := R5.put3 (.int .i64 p) (.int .i64 q) (.int .i64 t)
  obtain ⟨_, d0, d1, d2, _, _, _⟩ := Z.three
  exact bodyPost_ret (v := .tuple #[(.agg #[.int .i64 p, .int .i64 q, .int .i64 t]), (.int .i64 0)]) (by simp [results, Tryd.results56, go_sem, d0, d1, d2]) rfl ⟨rfl, by repeat (first | with_reducible exact own_refl _ | with_reducible assumption | with_reducible apply own_alloc | with_reducible apply own_drewN | with_reducible apply own_drew | ((with_reducible refine own_setCell ?_ ?_ _); rotate_left; focus (first | (simp; done) | (simp; omega))) | (with_reducible (refine own_trans ?_ (by assumption))))⟩
set_option maxHeartbeats 1000000 in
theorem specTop (s : ByteArray) (p q r k : Int) (hs : ∀ w, Calls Tryd.prog 56 #[.string s] w (RetT p q r k w)) (w : World) : Calls Tryd.prog 28 #[.string s] w (RetT p q r k w) := by
  have HS := Lib.hid hs
  clear hs
  go_enter Tryd.func28, Tryd.ntmps28
  go_wp2_with fail
  refine (HS.out _).mono ?_
  rintro e w1 ⟨rfl, hb1⟩
  have R1 : Box w1 w.heap.size [.int .i64 0, .int .i64 0, .int .i64 0] := Box.below (Box.new _ _ _) hb1
  have R2 := R1.alloc (.cells #[.int .i64 p, .int .i64 q, .int .i64 r] 26)
  have hne : ¬ (w1.heap.size = w.heap.size) := by have := R1.1; omega
  obtain ⟨_, _, _, _, _, _, _⟩ := R2.three
  go_wp2
  have Z := R2.put3 (.int .i64 p) (.int .i64 q) (.int .i64 r)
  obtain ⟨_, d0, d1, d2, _, _, _⟩ := Z.three
  exact bodyPost_ret (v := .tuple #[(.agg #[.int .i64 p, .int .i64 q, .int .i64 r]), (.int .i64 k)]) (by simp [results, Tryd.results28, go_sem, d0, d1, d2]) rfl ⟨rfl, by repeat (first | with_reducible exact own_refl _ | with_reducible assumption | with_reducible apply own_alloc | with_reducible apply own_drewN | with_reducible apply own_drew | ((with_reducible refine own_setCell ?_ ?_ _); rotate_left; focus (first | (simp; done) | (simp; omega))) | (with_reducible (refine own_trans ?_ (by assumption))))⟩
end Go.Proofs.YtkeadknbdihkmaaDoor
