/- impl.behindDoor at string: contracts. -/
import Derived.Test.YtpglcpolbhlekaaDoorMust
import Derived.Defers
import Derived.Recover
namespace Go.Proofs.YtpglcpolbhlekaaDoor
open Go.ChangeShapes Go.WideShapes Go.ChangeAt Go.RowKit

theorem assert_errT (a : Addr) (w : World) : (Instr.typeAssert (.iface 160 (.pointer (some a))) 20 84 true).run Tryd.prog w = .ok (.tuple #[.iface 160 (.pointer (some a)), .bool true]) w := by kernel_rfl
theorem assert_nilT (w : World) : (Instr.typeAssert .nilIface 20 84 true).run Tryd.prog w = .ok (.tuple #[.nilIface, .bool false]) w := by kernel_rfl
set_option maxRecDepth 100000 in
theorem caughtT (p : Addr) (x : Int) (a : Addr) (older : List PanicEntry) (w : World) (hc : w.cell? p = some (.int .i64 x)) (hz : w.frozen? p = false) :
    CallsD Tryd.prog 68 #[.pointer (some p)] (.panicking ({ v := .iface 160 (.pointer (some a)), recovered := false } :: older)) w fun e u' w' =>
      e = .returned (.tuple #[]) ∧ u' = .panicking ({ v := .iface 160 (.pointer (some a)), recovered := true } :: older) ∧ w' = w.setCell p (.int .i64 1) := by
  refine callsD_of_wpS Tryd.func68 rfl fun c₀ cs hu => ?_
  apply wpS_seq
  apply wpS_region
  simp [wpOpsS, go_sem, recoverD, hu, Tryd.ntmps68, Exit.thenS, assert_errT]
  apply wpS_seq
  apply wpS_region
  simp [wpOpsS, go_sem, Exit.thenS]
  refine wpS_cond (t := true) (by simp [Act.eval, Array.replicate]) ?_
  simp only [if_true]
  apply wpS_region
  simp [wpOpsS, go_sem, hc, hz, bodyPostS, results, Tryd.results68]
set_option maxRecDepth 100000 in
theorem idleT (p : Addr) (w : World) :
    CallsD Tryd.prog 68 #[.pointer (some p)] .returning w fun e u' w' => e = .returned (.tuple #[]) ∧ u' = .returning ∧ w' = w := by
  refine callsD_of_wpS Tryd.func68 rfl fun c₀ cs hu => ?_
  apply wpS_seq
  apply wpS_region
  simp [wpOpsS, go_sem, recoverD, hu, Tryd.ntmps68, Exit.thenS, assert_nilT]
  apply wpS_seq
  apply wpS_region
  simp [wpOpsS, go_sem, Exit.thenS]
  refine wpS_cond (t := false) (by simp [Act.eval, Array.replicate]) ?_
  simp only [Bool.false_eq_true, if_false]
  refine wpS_of_wp (wp_skip ?_)
  cases c₀
  simp_all [bodyPostS, results, Tryd.results68]

set_option maxRecDepth 100000 in
set_option maxHeartbeats 1000000 in
theorem doorT_yes (k : FuncId) (cap : Array Value) (b : ByteArray) (c : Int) (w : World) (hcf : ∀ w, (callFunc k cap).run Tryd.prog w = .ok (.enter k cap) w)
    (hW : ∀ w0, Below w.heap.size w w0 → Calls Tryd.prog k cap w0 fun e w' => e = .returned (.tuple #[.string b, (.int .i64 c)]) ∧ Below w0.heap.size w0 w') :
    Calls Tryd.prog 42 #[.func (.func k) #[] cap] w fun e w' => e = .returned (.tuple #[.string b, (.int .i64 c)]) ∧ Below w.heap.size w w' := by
  have hmf : ∀ (fn : Fn) (first cap : Array Value) (w : World), (Instr.makeFunc fn first cap).run Tryd.prog w = .ok (.func fn first cap) w := fun _ _ _ _ => rfl
  have HW := Lib.hid hW
  clear hW
  go_enter_defers Tryd.func42, Tryd.ntmps42
  go_wp2
  refine (HW.out _ (by repeat (first | with_reducible exact own_refl _ | with_reducible assumption | with_reducible apply own_alloc | with_reducible apply own_drewN | with_reducible apply own_drew | ((with_reducible refine own_setCell ?_ ?_ _); rotate_left; focus (first | (simp; done) | (simp; omega))) | (with_reducible (refine own_trans ?_ (by assumption)))))).mono ?_
  rintro e w2 ⟨rfl, hb2⟩
  have T2 : Below w.heap.size w w2 := by repeat (first | with_reducible exact own_refl _ | with_reducible assumption | with_reducible apply own_alloc | with_reducible apply own_drewN | with_reducible apply own_drew | ((with_reducible refine own_setCell ?_ ?_ _); rotate_left; focus (first | (simp; done) | (simp; omega))) | (with_reducible (refine own_trans ?_ (by assumption))))
  have B2 := (Box.new w [(.int .i64 0)] 2).below hb2
  obtain ⟨_, hq0, hq1⟩ := B2.one
  clear hcf
  go_wp2
  refine leaves_cons (f := 68) (args := #[.pointer (some ⟨w.heap.size, 0, none⟩)]) (by simp) (by simp [go_sem]) ?_
  refine (idleT ⟨w.heap.size, 0, none⟩ _).mono ?_
  rintro e u' w'' ⟨rfl, rfl, rfl⟩
  have B3 := B2.set 0 (by simp) (.int .i64 c)
  obtain ⟨_, hq, _⟩ := B3.one
  simp [Leaves, settle, results, Tryd.results42, go_sem, hq]
  repeat (first | with_reducible exact own_refl _ | with_reducible assumption | with_reducible apply own_alloc | with_reducible apply own_drewN | with_reducible apply own_drew | ((with_reducible refine own_setCell ?_ ?_ _); rotate_left; focus (first | (simp; done) | (simp; omega))) | (with_reducible (refine own_trans ?_ (by assumption))))
set_option maxRecDepth 100000 in
set_option maxHeartbeats 1000000 in
theorem doorT_no (k : FuncId) (cap : Array Value) (a : Addr) (w : World) (hcf : ∀ w, (callFunc k cap).run Tryd.prog w = .ok (.enter k cap) w)
    (hW : ∀ w0, Below w.heap.size w w0 → Calls Tryd.prog k cap w0 fun e w' => e = errPanic a ∧ Below w0.heap.size w0 w') :
    Calls Tryd.prog 42 #[.func (.func k) #[] cap] w fun e w' => e = .returned (.tuple #[.string ⟨#[]⟩, (.int .i64 1)]) ∧ Below w.heap.size w w' := by
  have hmf : ∀ (fn : Fn) (first cap : Array Value) (w : World), (Instr.makeFunc fn first cap).run Tryd.prog w = .ok (.func fn first cap) w := fun _ _ _ _ => rfl
  have HW := Lib.hid hW
  clear hW
  go_enter_defers Tryd.func42, Tryd.ntmps42
  go_wp2
  refine (HW.out _ (by repeat (first | with_reducible exact own_refl _ | with_reducible assumption | with_reducible apply own_alloc | with_reducible apply own_drewN | with_reducible apply own_drew | ((with_reducible refine own_setCell ?_ ?_ _); rotate_left; focus (first | (simp; done) | (simp; omega))) | (with_reducible (refine own_trans ?_ (by assumption)))))).mono ?_
  rintro e w2 ⟨rfl, hb2⟩
  unfold errPanic
  have T2 : Below w.heap.size w w2 := by repeat (first | with_reducible exact own_refl _ | with_reducible assumption | with_reducible apply own_alloc | with_reducible apply own_drewN | with_reducible apply own_drew | ((with_reducible refine own_setCell ?_ ?_ _); rotate_left; focus (first | (simp; done) | (simp; omega))) | (with_reducible (refine own_trans ?_ (by assumption))))
  have B2 := (Box.new w [(.int .i64 0)] 2).below hb2
  obtain ⟨_, hq0, hq1⟩ := B2.one
  clear hcf
  go_wp2
  refine leaves_cons (f := 68) (args := #[.pointer (some ⟨w.heap.size, 0, none⟩)]) (by simp) (by simp [go_sem]) ?_
  refine (caughtT ⟨w.heap.size, 0, none⟩ 0 a [] _ hq0 hq1).mono ?_
  rintro e u' w'' ⟨rfl, rfl, rfl⟩
  have B3 := B2.set 0 (by simp) (.int .i64 1)
  obtain ⟨_, hq, _⟩ := B3.one
  simp [Leaves, settle, results, Tryd.results42, go_sem, hq]
  repeat (first | with_reducible exact own_refl _ | with_reducible assumption | with_reducible apply own_alloc | with_reducible apply own_drewN | with_reducible apply own_drew | ((with_reducible refine own_setCell ?_ ?_ _); rotate_left; focus (first | (simp; done) | (simp; omega))) | (with_reducible (refine own_trans ?_ (by assumption))))
end Go.Proofs.YtpglcpolbhlekaaDoor

