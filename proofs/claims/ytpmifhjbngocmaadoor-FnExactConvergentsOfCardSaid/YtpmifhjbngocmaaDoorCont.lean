/- impl.ContinuedOf and spec.ContinuedOf: contracts. -/
import Derived.Test.YtpmifhjbngocmaaDoorDet
import Derived.Test.YtpmifhjbngocmaaDoorDoorS
import Derived.Test.YtpmifhjbngocmaaDoorCf
namespace Go.Proofs.YtpmifhjbngocmaaDoor
open Go.ChangeShapes Go.WideShapes Go.ChangeAt Go.RowKit

set_option maxHeartbeats 1000000 in
theorem contClo_yes (p q : Int) (g1 : Nat) (h1 : isF p q = true) (hq : 0 < q) (w : World) (B1 : Box w g1 [.int .i64 p, .int .i64 q]) :
    Calls Tryd.prog 76 #[.pointer (some ⟨g1, 0, none⟩)] w (RetS (cfL q.natAbs p q) 0 w) := by
  have H1 := Lib.hid h1
  have HE := Lib.hid (isF_ent h1)
  have HQ := Lib.hid hq
  have hq0 : (q == 0) = false := by simp; omega
  have HF := Lib.hid (show q.natAbs ≤ 1000000000 by have := HE.out.2.1; unfold Ent at this; omega)
  clear h1 hq
  obtain ⟨_, _, _, _, _⟩ := B1.two
  go_enter Tryd.func76, Tryd.ntmps76
  go_wp2_with fail
  refine (must1_yes _ p q H1.out _ (Box.new _ _ _)).mono ?_
  rintro e w1 ⟨rfl, hb1⟩
  have T1 : Below w.heap.size w w1 := by repeat (first | with_reducible exact own_refl _ | with_reducible assumption | with_reducible apply own_alloc | with_reducible apply own_drewN | with_reducible apply own_drew | ((with_reducible refine own_setCell ?_ ?_ _); rotate_left; focus (first | (simp; done) | (simp; omega))) | (with_reducible (refine own_trans ?_ (by assumption))))
  obtain ⟨_, _, _, _, _⟩ := (B1.below T1).two
  go_wp2_with fail
  refine (implCf_any q.natAbs p q HE.out.1 HE.out.2.1 HQ.out (Nat.le_refl _) HF.out _).mono ?_
  rintro e w2 ⟨v, rfl, hG, hb2⟩
  go_wp2
  go_ret2
  exact ⟨v, rfl, hG.sl.weak (by have := T1.size; omega), by repeat (first | with_reducible exact own_refl _ | with_reducible assumption | with_reducible apply own_alloc | with_reducible apply own_drewN | with_reducible apply own_drew | ((with_reducible refine own_setCell ?_ ?_ _); rotate_left; focus (first | (simp; done) | (simp; omega))) | (with_reducible (refine own_trans ?_ (by assumption))))⟩
set_option maxHeartbeats 1000000 in
theorem contClo_inf (p q : Int) (g1 : Nat) (h1 : isF p q = true) (hq : q = 0) (w : World) (B1 : Box w g1 [.int .i64 p, .int .i64 q]) :
    Calls Tryd.prog 76 #[.pointer (some ⟨g1, 0, none⟩)] w (RetS [] 5 w) := by
  subst hq
  have H1 := Lib.hid h1
  clear h1
  obtain ⟨_, _, _, _, _⟩ := B1.two
  go_enter Tryd.func76, Tryd.ntmps76
  go_wp2_with fail
  refine (must1_yes _ p 0 H1.out _ (Box.new _ _ _)).mono ?_
  rintro e w1 ⟨rfl, hb1⟩
  have T1 : Below w.heap.size w w1 := by repeat (first | with_reducible exact own_refl _ | with_reducible assumption | with_reducible apply own_alloc | with_reducible apply own_drewN | with_reducible apply own_drew | ((with_reducible refine own_setCell ?_ ?_ _); rotate_left; focus (first | (simp; done) | (simp; omega))) | (with_reducible (refine own_trans ?_ (by assumption))))
  obtain ⟨_, _, _, _, _⟩ := (B1.below T1).two
  go_wp2
  go_ret2
  exact ⟨_, rfl, Sl.nil _ _ _ (Nat.le_refl _), by repeat (first | with_reducible exact own_refl _ | with_reducible assumption | with_reducible apply own_alloc | with_reducible apply own_drewN | with_reducible apply own_drew | ((with_reducible refine own_setCell ?_ ?_ _); rotate_left; focus (first | (simp; done) | (simp; omega))) | (with_reducible (refine own_trans ?_ (by assumption))))⟩
set_option maxHeartbeats 1000000 in
theorem contClo_no (p q : Int) (g1 : Nat) (h1 : isF p q = false) (a : Addr) (w : World) (B1 : Box w g1 [.int .i64 p, .int .i64 q]) (hE : Er w a) :
    Calls Tryd.prog 76 #[.pointer (some ⟨g1, 0, none⟩)] w fun e w' => e = errPanic a ∧ Below w.heap.size w w' := by
  have H := Lib.hid h1
  have HE := Lib.hid hE
  clear h1 hE
  obtain ⟨_, _, _, _, _⟩ := B1.two
  go_enter Tryd.func76, Tryd.ntmps76
  go_wp2_with fail
  refine (must1_no _ p q H.out a _ (Box.new _ _ _) (HE.out.alloc _)).mono ?_
  unfold errPanic
  rintro e w1 ⟨rfl, hb1⟩
  go_wp2
  exact ⟨rfl, rfl, by repeat (first | with_reducible exact own_refl _ | with_reducible assumption | with_reducible apply own_alloc | with_reducible apply own_drewN | with_reducible apply own_drew | ((with_reducible refine own_setCell ?_ ?_ _); rotate_left; focus (first | (simp; done) | (simp; omega))) | (with_reducible (refine own_trans ?_ (by assumption))))⟩

set_option maxHeartbeats 1000000 in
theorem implCont_ok (p q : Int) (xs : List Int) (c : Int) (hclo : ∀ (w0 : World) (g1 : Nat), Box w0 g1 [.int .i64 p, .int .i64 q] → Calls Tryd.prog 76 #[.pointer (some ⟨g1, 0, none⟩)] w0 (RetS xs c w0)) (w : World) :
    Calls Tryd.prog 47 #[(.agg #[.int .i64 p, .int .i64 q])] w (RetS xs c w) := by
  have hmf : ∀ (fn : Fn) (first cap : Array Value) (w : World), (Instr.makeFunc fn first cap).run Tryd.prog w = .ok (.func fn first cap) w := fun _ _ _ _ => rfl
  have HC := Lib.hid hclo
  clear hclo
  go_enter Tryd.func47, Tryd.ntmps47
  go_wp2_with fail
  refine (doorS_yes _ _ xs c _ (fun _ => by kernel_rfl) (fun w0 hb0 => HC.out w0 w.heap.size ((Box.new _ _ _).below hb0))).mono ?_
  rintro e w1 ⟨v, rfl, hS, hb1⟩
  go_wp2
  go_ret2
  exact ⟨v, rfl, hS.weak (by simp), by repeat (first | with_reducible exact own_refl _ | with_reducible assumption | with_reducible apply own_alloc | with_reducible apply own_drewN | with_reducible apply own_drew | ((with_reducible refine own_setCell ?_ ?_ _); rotate_left; focus (first | (simp; done) | (simp; omega))) | (with_reducible (refine own_trans ?_ (by assumption))))⟩
set_option maxHeartbeats 1000000 in
theorem implCont_no (p q : Int) (h : isF p q = false) (a : Addr) (w : World) (hE : Er w a) :
    Calls Tryd.prog 47 #[(.agg #[.int .i64 p, .int .i64 q])] w (RetS [] 1 w) := by
  have hmf : ∀ (fn : Fn) (first cap : Array Value) (w : World), (Instr.makeFunc fn first cap).run Tryd.prog w = .ok (.func fn first cap) w := fun _ _ _ _ => rfl
  have H := Lib.hid h
  have HE := Lib.hid hE
  clear h hE
  go_enter Tryd.func47, Tryd.ntmps47
  go_wp2_with fail
  refine (doorS_no _ _ a _ (fun _ => by kernel_rfl) (fun w0 hb0 => contClo_no p q w.heap.size H.out a w0 ((Box.new _ _ _).below hb0) ((HE.out.alloc _).below hb0))).mono ?_
  rintro e w1 ⟨rfl, hb1⟩
  go_wp2
  go_ret2
  exact ⟨_, rfl, Sl.nil _ _ _ (Nat.le_refl _), by repeat (first | with_reducible exact own_refl _ | with_reducible assumption | with_reducible apply own_alloc | with_reducible apply own_drewN | with_reducible apply own_drew | ((with_reducible refine own_setCell ?_ ?_ _); rotate_left; focus (first | (simp; done) | (simp; omega))) | (with_reducible (refine own_trans ?_ (by assumption))))⟩

end Go.Proofs.YtpmifhjbngocmaaDoor
