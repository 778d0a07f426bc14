/- impl.AreNeighbours and spec.AreNeighbours: contracts. -/
import Derived.Test.YteknmpnkjoopfaaDoorDet
import Derived.Test.YteknmpnkjoopfaaDoorDoorB
namespace Go.Proofs.YteknmpnkjoopfaaDoor
open Go.ChangeShapes Go.WideShapes Go.ChangeAt Go.RowKit

set_option maxHeartbeats 1000000 in
theorem neiClo_yes (g1 g2 : Nat) (p q s t D : Int) (r : Bool) (h1 : isF p q = true) (h2 : isF s t = true) (hD : detF p q s t = D) (hr : ((D.natAbs : Int) == 1) = r) (w : World) (B1 : Box w g1 [.int .i64 p, .int .i64 q]) (B2 : Box w g2 [.int .i64 s, .int .i64 t]) :
    Calls Tryd.prog 61 #[.pointer (some ⟨g1, 0, none⟩), .pointer (some ⟨g2, 0, none⟩)] w fun e w' => e = .returned (.tuple #[.bool r, (.int .i64 0)]) ∧ Below w.heap.size w w' := by
  have H1 := Lib.hid h1
  have H2 := Lib.hid h2
  have HD := Lib.hid hD
  have HR := Lib.hid hr
  have HE := Lib.hid (show Ent p ∧ Ent q ∧ Ent s ∧ Ent t from ⟨(isF_ent h1).1, (isF_ent h1).2.1, (isF_ent h2).1, (isF_ent h2).2.1⟩)
  have hbd := detF_bd HE.out.1 HE.out.2.1 HE.out.2.2.1 HE.out.2.2.2
  rw [hD] at hbd
  clear h1 h2 hD hr
  obtain ⟨_, _⟩ := hbd
  obtain ⟨_, _, _, _, _⟩ := B1.two
  obtain ⟨_, _, _, _, _⟩ := B2.two
  go_enter Tryd.func61, Tryd.ntmps61
  go_wp2_with fail
  refine (must2_yes _ p q s t H1.out H2.out _ (Box.new _ _ _)).mono ?_
  rintro e w1 ⟨rfl, hb1⟩
  have T1 : Below w.heap.size w w1 := by repeat (first | with_reducible exact own_refl _ | with_reducible assumption | with_reducible apply own_alloc | with_reducible apply own_drewN | with_reducible apply own_drew | ((with_reducible refine own_setCell ?_ ?_ _); rotate_left; focus (first | (simp; done) | (simp; omega))) | (with_reducible (refine own_trans ?_ (by assumption))))
  obtain ⟨_, _, _, _, _⟩ := (B1.below T1).two
  obtain ⟨_, _, _, _, _⟩ := (B2.below T1).two
  go_wp2_with fail
  refine (det_is p q s t D HD.out HE.out.1 HE.out.2.1 HE.out.2.2.1 HE.out.2.2.2 _).mono ?_
  rintro e w2 ⟨rfl, hb2⟩
  go_wp2_with fail
  refine (absolute_any D (by omega) (by omega) _).mono ?_
  rintro e w3 ⟨rfl, rfl⟩
  have HR2 := HR.out
  go_wp2
  go_ret2
  exact ⟨rfl, by repeat (first | with_reducible exact own_refl _ | with_reducible assumption | with_reducible apply own_alloc | with_reducible apply own_drewN | with_reducible apply own_drew | ((with_reducible refine own_setCell ?_ ?_ _); rotate_left; focus (first | (simp; done) | (simp; omega))) | (with_reducible (refine own_trans ?_ (by assumption))))⟩
set_option maxHeartbeats 1000000 in
theorem neiClo_no (g1 g2 : Nat) (p q s t : Int) (h : ¬ (isF p q = true ∧ isF s t = true)) (a : Addr) (w : World) (B1 : Box w g1 [.int .i64 p, .int .i64 q]) (B2 : Box w g2 [.int .i64 s, .int .i64 t]) (hE : Er w a) :
    Calls Tryd.prog 61 #[.pointer (some ⟨g1, 0, none⟩), .pointer (some ⟨g2, 0, none⟩)] w fun e w' => e = errPanic a ∧ Below w.heap.size w w' := by
  have H := Lib.hid h
  have HE := Lib.hid hE
  clear h hE
  obtain ⟨_, _, _, _, _⟩ := B1.two
  obtain ⟨_, _, _, _, _⟩ := B2.two
  go_enter Tryd.func61, Tryd.ntmps61
  go_wp2_with fail
  refine (must2_no _ p q s t H.out a _ (Box.new _ _ _) (HE.out.alloc _)).mono ?_
  unfold errPanic
  rintro e w1 ⟨rfl, hb1⟩
  go_wp2
  exact ⟨rfl, rfl, by repeat (first | with_reducible exact own_refl _ | with_reducible assumption | with_reducible apply own_alloc | with_reducible apply own_drewN | with_reducible apply own_drew | ((with_reducible refine own_setCell ?_ ?_ _); rotate_left; focus (first | (simp; done) | (simp; omega))) | (with_reducible (refine own_trans ?_ (by assumption))))⟩

set_option maxHeartbeats 1000000 in
theorem implNei_yes (p q s t D : Int) (r : Bool) (h1 : isF p q = true) (h2 : isF s t = true) (hD : detF p q s t = D) (hr : ((D.natAbs : Int) == 1) = r) (w : World) :
    Calls Tryd.prog 27 #[(.agg #[.int .i64 p, .int .i64 q]), (.agg #[.int .i64 s, .int .i64 t])] w fun e w' => e = .returned (.tuple #[.bool r, (.int .i64 0)]) ∧ Below w.heap.size w w' := by
  have hmf : ∀ (fn : Fn) (first cap : Array Value) (w : World), (Instr.makeFunc fn first cap).run Tryd.prog w = .ok (.func fn first cap) w := fun _ _ _ _ => rfl
  have H1 := Lib.hid h1
  have H2 := Lib.hid h2
  have HD := Lib.hid hD
  have HR := Lib.hid hr
  clear h1 h2 hD hr
  go_enter Tryd.func27, Tryd.ntmps27
  go_wp2_with fail
  refine (doorB_yes _ _ r 0 _ (fun _ => by kernel_rfl) (fun w0 hb0 => neiClo_yes w.heap.size (w.heap.size + 1) p q s t D r H1.out H2.out HD.out HR.out w0 (((Box.new _ _ _).alloc _).below hb0) ((Box.newAt (by simp) _ _).below hb0))).mono ?_
  rintro e w1 ⟨rfl, hb1⟩
  go_wp2
  go_ret2
  exact ⟨rfl, by repeat (first | with_reducible exact own_refl _ | with_reducible assumption | with_reducible apply own_alloc | with_reducible apply own_drewN | with_reducible apply own_drew | ((with_reducible refine own_setCell ?_ ?_ _); rotate_left; focus (first | (simp; done) | (simp; omega))) | (with_reducible (refine own_trans ?_ (by assumption))))⟩
set_option maxHeartbeats 1000000 in
theorem implNei_no (p q s t : Int) (h : ¬ (isF p q = true ∧ isF s t = true)) (a : Addr) (w : World) (hE : Er w a) :
    Calls Tryd.prog 27 #[(.agg #[.int .i64 p, .int .i64 q]), (.agg #[.int .i64 s, .int .i64 t])] w fun e w' => e = .returned (.tuple #[.bool false, (.int .i64 1)]) ∧ Below w.heap.size w w' := by
  have hmf : ∀ (fn : Fn) (first cap : Array Value) (w : World), (Instr.makeFunc fn first cap).run Tryd.prog w = .ok (.func fn first cap) w := fun _ _ _ _ => rfl
  have H := Lib.hid h
  have HE := Lib.hid hE
  clear h hE
  go_enter Tryd.func27, Tryd.ntmps27
  go_wp2_with fail
  refine (doorB_no _ _ a _ (fun _ => by kernel_rfl) (fun w0 hb0 => neiClo_no w.heap.size (w.heap.size + 1) p q s t H.out a w0 (((Box.new _ _ _).alloc _).below hb0) ((Box.newAt (by simp) _ _).below hb0) (((HE.out.alloc _).alloc _).below hb0))).mono ?_
  rintro e w1 ⟨rfl, hb1⟩
  go_wp2
  go_ret2
  exact ⟨rfl, by repeat (first | with_reducible exact own_refl _ | with_reducible assumption | with_reducible apply own_alloc | with_reducible apply own_drewN | with_reducible apply own_drew | ((with_reducible refine own_setCell ?_ ?_ _); rotate_left; focus (first | (simp; done) | (simp; omega))) | (with_reducible (refine own_trans ?_ (by assumption))))⟩

set_option maxHeartbeats 1000000 in
theorem specNei_yes (p q s t D : Int) (r : Bool) (h1 : isF p q = true) (h2 : isF s t = true) (hD : detF p q s t = D) (hr : (decide (D = 1) || decide (D = -1)) = r) (w : World) :
    Calls Tryd.prog 25 #[(.agg #[.int .i64 p, .int .i64 q]), (.agg #[.int .i64 s, .int .i64 t])] w fun e w' => e = .returned (.tuple #[.bool r, (.int .i64 0)]) ∧ Below w.heap.size w w' := by
  have H1 := Lib.hid h1
  have H2 := Lib.hid h2
  have HD := Lib.hid hD
  have HR := Lib.hid hr
  have HE := Lib.hid (show Ent p ∧ Ent q ∧ Ent s ∧ Ent t from ⟨(isF_ent h1).1, (isF_ent h1).2.1, (isF_ent h2).1, (isF_ent h2).2.1⟩)
  clear h1 h2 hD hr
  go_enter Tryd.func25, Tryd.ntmps25
  go_wp2_with fail
  refine (both_yes p q s t H1.out H2.out _).mono ?_
  rintro e w1 ⟨rfl, hb1⟩
  have A1 : Box w1 w.heap.size [.int .i64 p, .int .i64 q] := Box.below (Box.alloc (Box.new _ _ _) _) hb1
  have B1 : Box w1 (w.heap.size + 1) [.int .i64 s, .int .i64 t] := Box.below (Box.newAt (by simp) _ _) hb1
  obtain ⟨_, _, _, _, _⟩ := A1.two
  obtain ⟨_, _, _, _, _⟩ := B1.two
  go_wp2_with fail
  refine (near_is p q s t D HD.out r HR.out HE.out.1 HE.out.2.1 HE.out.2.2.1 HE.out.2.2.2 _).mono ?_
  rintro e w2 ⟨rfl, hb2⟩
  go_wp2
  go_ret2
  exact ⟨rfl, by repeat (first | with_reducible exact own_refl _ | with_reducible assumption | with_reducible apply own_alloc | with_reducible apply own_drewN | with_reducible apply own_drew | ((with_reducible refine own_setCell ?_ ?_ _); rotate_left; focus (first | (simp; done) | (simp; omega))) | (with_reducible (refine own_trans ?_ (by assumption))))⟩
set_option maxHeartbeats 1000000 in
theorem specNei_no (p q s t : Int) (h : ¬ (isF p q = true ∧ isF s t = true)) (w : World) :
    Calls Tryd.prog 25 #[(.agg #[.int .i64 p, .int .i64 q]), (.agg #[.int .i64 s, .int .i64 t])] w fun e w' => e = .returned (.tuple #[.bool false, (.int .i64 1)]) ∧ Below w.heap.size w w' := by
  have H := Lib.hid h
  clear h
  go_enter Tryd.func25, Tryd.ntmps25
  go_wp2_with fail
  refine (both_no p q s t H.out _).mono ?_
  rintro e w1 ⟨rfl, hb1⟩
  go_wp2
  go_ret2
  exact ⟨rfl, by repeat (first | with_reducible exact own_refl _ | with_reducible assumption | with_reducible apply own_alloc | with_reducible apply own_drewN | with_reducible apply own_drew | ((with_reducible refine own_setCell ?_ ?_ _); rotate_left; focus (first | (simp; done) | (simp; omega))) | (with_reducible (refine own_trans ?_ (by assumption))))⟩
end Go.Proofs.YteknmpnkjoopfaaDoor
