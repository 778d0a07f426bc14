/- What is known of the error of what is left: an interface value with a pointer in it. -/
import Derived.Test.YtejghidllochoaaDoorBase
import Derived.LaidLaws
import Derived.LaidSub
import Derived.Deep.DeepHandedRow
import Derived.MakeChecks
import Derived.Stop.ErrReads
import Derived.Test.YtejghidllochoaaDoorSpE
import Derived.Defers
import Derived.Recover
import Derived.Test.YtejghidllochoaaDoorToS
import Derived.OwnWalk
namespace Go.Proofs.YtejghidllochoaaDoor
open Go.ChangeShapes Go.WideShapes Go.ChangeAt Go.RowKit

/-- The error of what is left lies at a. -/
def ErL (w : World) (a : Addr) : Prop := w.cell? ⟨2, 0, none⟩ = some (.iface 135 (.pointer (some a)))
theorem ErL.lt {w : World} {a : Addr} (h : ErL w a) : 2 < w.heap.size := World.block_lt_of_cell? w _ h
theorem ErL.below {w w' : World} {a : Addr} (h : ErL w a) (hb : Below w.heap.size w w') : ErL w' a := (hb.cell (p := ⟨2, 0, none⟩) h.lt).trans h
theorem ErL.drew {w : World} {a : Addr} (h : ErL w a) : ErL w.drew a := h
theorem ErL.drewN {w : World} {a : Addr} (h : ErL w a) (n : Nat) : ErL (w.drewN n) a := h
theorem ErL.alloc {w : World} {a : Addr} (h : ErL w a) (o : Obj) : ErL (w.alloc o) a := h.below (own_alloc (own_refl w) o)
end Go.Proofs.YtejghidllochoaaDoor
/- What the row's list gives of the package's error. -/
namespace Go.Proofs.YtejghidllochoaaDoor
open Go.ChangeShapes Go.WideShapes Go.ChangeAt Go.RowKit

theorem gErrL : Tryd.prog.globalNamed "loop.example/g01380/impl.errLeft" = some 2 := by kernel_rfl
theorem gErrTypeL : (Tryd.prog.globals[2]?).map (·.type) = some 96 := by kernel_rfl
theorem cells_esL : Tryd.prog.cellsOf 152 = 1 := by kernel_rfl
theorem cells_strL : Tryd.prog.cellsOf 9 = 1 := by kernel_rfl
theorem star_esL : "*" ++ "errors.errorString" = "*errors.errorString" := by decide
theorem row_esL (u : TypeId) (h : Tryd.prog.typeName? 3 u = some "*errors.errorString") : u = 135 :=
  typeName_ptr_named (nm := "errors.errorString") (by rw [star_esL]; kernel_rfl) (by kernel_rfl) (by decide) u (by rw [star_esL]; exact h)
set_option maxRecDepth 1000000 in
theorem erl_of {W : World} (h : laidMetH Tryd.prog [("loop.example/g01380/impl.errLeft", Rows.laid_loop_example_g01380_impl_errLeft)] W) : ∃ a, ErL W a := by
  rw [MakeChecks.laidMetH_plain _ _ _ (by kernel_rfl)] at h
  obtain ⟨ps, ⟨g0, t0, cs0, f0, p0, q0, hg0, ht0, hv0, hd0, hq0, e0⟩, hnd, hrows⟩ := h
  obtain rfl := Option.some.inj (gErrL.symm.trans hg0)
  obtain rfl := Option.some.inj (gErrTypeL.symm.trans ht0)
  have hq1' : q0 = [] := hq0
  subst hq1'
  subst e0
  obtain ⟨l0⟩ := cs0
  have ok0 : ∀ u v, l0 = [.iface u v] → Value.okWide Tryd.prog W .any 0 u v := fun u v e => by
    subst e
    exact (hrows 2 0 (by simp [MemPlace.row])).2 u v (by simpa using World.var?_cell hg0 hv0 0)
  obtain ⟨a0, s0, rfl, _⟩ := errorString_of_trod Tryd.underlying96 row_esL Tryd.underlying135 Tryd.underlying152 rfl rfl Tryd.underlying9 cells_esL cells_strL hd0 ok0
  exact ⟨a0, by unfold ErL; simpa using World.var?_cell hg0 hv0 0⟩
end Go.Proofs.YtejghidllochoaaDoor
/- (span).goes behind its door: contract. -/
namespace Go.Proofs.YtejghidllochoaaDoor
open Go.ChangeShapes Go.WideShapes Go.ChangeAt Go.RowKit
open Ech (Sp Rw Stair)

theorem assert_errG (a : Addr) (w : World) : (Instr.typeAssert (.iface 135 (.pointer (some a))) 20 96 true).run Tryd.prog w = .ok (.tuple #[.iface 135 (.pointer (some a)), .bool true]) w := by kernel_rfl
theorem assert_nilG (w : World) : (Instr.typeAssert .nilIface 20 96 true).run Tryd.prog w = .ok (.tuple #[.nilIface, .bool false]) w := by kernel_rfl
set_option maxRecDepth 100000 in
theorem caughtG (p : Addr) (x : Bool) (a : Addr) (older : List PanicEntry) (w : World) (hc : w.cell? p = some (.bool x)) (hz : w.frozen? p = false) :
    CallsD Tryd.prog 78 #[.pointer (some p)] (.panicking ({ v := .iface 135 (.pointer (some a)), recovered := false } :: older)) w fun e u' w' =>
      e = .returned (.tuple #[]) ∧ u' = .panicking ({ v := .iface 135 (.pointer (some a)), recovered := true } :: older) ∧ w' = w.setCell p (.bool false) := by
  refine callsD_of_wpS Tryd.func78 rfl fun c₀ cs hu => ?_
  apply wpS_seq
  apply wpS_region
  simp [wpOpsS, go_sem, recoverD, hu, Tryd.ntmps78, Exit.thenS, assert_errG]
  apply wpS_seq
  apply wpS_region
  simp [wpOpsS, go_sem, Exit.thenS]
  refine wpS_cond (t := true) (by simp [Act.eval, Array.replicate]) ?_
  simp only [if_true]
  apply wpS_region
  simp [wpOpsS, go_sem, hc, hz, bodyPostS, results, Tryd.results78]
set_option maxRecDepth 100000 in
theorem idleG (p : Addr) (w : World) :
    CallsD Tryd.prog 78 #[.pointer (some p)] .returning w fun e u' w' => e = .returned (.tuple #[]) ∧ u' = .returning ∧ w' = w := by
  refine callsD_of_wpS Tryd.func78 rfl fun c₀ cs hu => ?_
  apply wpS_seq
  apply wpS_region
  simp [wpOpsS, go_sem, recoverD, hu, Tryd.ntmps78, Exit.thenS, assert_nilG]
  apply wpS_seq
  apply wpS_region
  simp [wpOpsS, go_sem, Exit.thenS]
  refine wpS_cond (t := false) (by simp [Act.eval, Array.replicate]) ?_
  simp only [Bool.false_eq_true, if_false]
  refine wpS_of_wp (wp_skip ?_)
  cases c₀
  simp_all [bodyPostS, results, Tryd.results78]
/-- The door's panic. -/
def leftPanic (a : Addr) : Ending := .panicked [{ v := .iface 135 (.pointer (some a)), recovered := false }]
/-- What goes is told of. -/
structure GoS (p N : Nat) (n : Int) (M : Nat) (E : Nat → Option (List Int)) : Prop where
  hp5 : Ech.fiveP p
  hN0 : 0 < N
  hN : N ≤ 72
  sp : SPAN p n N M E
theorem TK.yes {p N M first : Nat} {n : Int} {E : Nat → Option (List Int)} {x : Nat → Int} {ys : List Int} (hS : GoS p N n M E) (ht : TK p N E x ys first) : GO p n N M x ↔ ¬ first < N := by
  rw [← ht.goes hS.hp5 hS.sp]
  have := ht.1
  omega
set_option maxHeartbeats 1000000 in
theorem mustGo_yes (p N M : Nat) (n : Int) (E : Nat → Option (List Int)) (hS : GoS p N n M E) (xs : List Int) (hxl : xs.length = N) (hxb : ∀ k, k < N → I64 (gv xs k)) (hg : GO p n N M (gv xs)) (v : Value) (L U U2 b : Nat) (a : Addr) (w : World) (hSl : Sl w L U v xs) (hB : SpB w U2 b N E) (hE : ErL w a) :
    Calls Tryd.prog 79 #[.agg #[(.int .i64 ((p : Int))), .slice (some ⟨b, 0, none⟩) N N], v] w fun e w' => e = .returned (.tuple #[]) ∧ Below w.heap.size w w' := by
  have HT := Lib.hid (fun w v L U U2 hSl hB => takeOff_is p N hS.hp5 hS.hN0 hS.hN E hS.sp.1 xs hxl hxb v L U U2 b w hSl hB)
  have HY := Lib.hid (fun ys first (ht : TK p N E (gv xs) ys first) => (TK.yes hS ht).1 hg)
  have H1 := Lib.hid (And.intro hSl hB)
  have HE := Lib.hid hE
  have hN0 := hS.hN0
  clear hS hxl hxb hg hSl hB hE
  go_enter Tryd.func79, Tryd.ntmps79
  go_wp2_with fail
  have T1 : Below w.heap.size w (w.alloc (.cells #[(.int .i64 ((p : Int))), .slice (some ⟨b, 0, none⟩) N N] 65)) := by repeat (first | with_reducible exact own_refl _ | with_reducible assumption | with_reducible apply own_alloc | with_reducible apply own_drewN | with_reducible apply own_drew | ((with_reducible refine own_setCell ?_ ?_ _); rotate_left; focus (first | (simp; done) | (simp; omega))) | (with_reducible (refine own_trans ?_ (by assumption))))
  have S1 := H1.out.1.own T1
  have B1 : SpB (w.alloc (.cells #[(.int .i64 ((p : Int))), .slice (some ⟨b, 0, none⟩) N N] 65)) U2 b N E := H1.out.2.below (T1.mono H1.out.2.1)
  refine (HT.out _ _ _ _ _ S1 B1).mono ?_
  rintro e w2 ⟨q, ys, first, rfl, hG, hK, hb⟩
  have T2 := own_trans T1 hb
  have hE2 := HE.out.below T2
  unfold ErL at hE2
  have hf := HY.out _ _ hK
  obtain ⟨ad, cap, hv⟩ := hG.shape
  rw [hK.2.1.1.1] at hv
  subst hv
  clear hG hb S1 B1 hK T1
  go_wp2
  go_end0
  exact ⟨rfl, T2⟩
set_option maxHeartbeats 1000000 in
theorem mustGo_no (p N M : Nat) (n : Int) (E : Nat → Option (List Int)) (hS : GoS p N n M E) (xs : List Int) (hxl : xs.length = N) (hxb : ∀ k, k < N → I64 (gv xs k)) (hg : ¬ GO p n N M (gv xs)) (v : Value) (L U U2 b : Nat) (a : Addr) (w : World) (hSl : Sl w L U v xs) (hB : SpB w U2 b N E) (hE : ErL w a) :
    Calls Tryd.prog 79 #[.agg #[(.int .i64 ((p : Int))), .slice (some ⟨b, 0, none⟩) N N], v] w fun e w' => e = leftPanic a ∧ Below w.heap.size w w' := by
  have HT := Lib.hid (fun w v L U U2 hSl hB => takeOff_is p N hS.hp5 hS.hN0 hS.hN E hS.sp.1 xs hxl hxb v L U U2 b w hSl hB)
  have HY := Lib.hid (fun ys first (ht : TK p N E (gv xs) ys first) => Decidable.not_not.1 fun h => hg ((TK.yes hS ht).2 h))
  have H1 := Lib.hid (And.intro hSl hB)
  have HE := Lib.hid hE
  have hN0 := hS.hN0
  clear hS hxl hxb hg hSl hB hE
  go_enter Tryd.func79, Tryd.ntmps79
  go_wp2_with fail
  have T1 : Below w.heap.size w (w.alloc (.cells #[(.int .i64 ((p : Int))), .slice (some ⟨b, 0, none⟩) N N] 65)) := by repeat (first | with_reducible exact own_refl _ | with_reducible assumption | with_reducible apply own_alloc | with_reducible apply own_drewN | with_reducible apply own_drew | ((with_reducible refine own_setCell ?_ ?_ _); rotate_left; focus (first | (simp; done) | (simp; omega))) | (with_reducible (refine own_trans ?_ (by assumption))))
  have S1 := H1.out.1.own T1
  have B1 : SpB (w.alloc (.cells #[(.int .i64 ((p : Int))), .slice (some ⟨b, 0, none⟩) N N] 65)) U2 b N E := H1.out.2.below (T1.mono H1.out.2.1)
  refine (HT.out _ _ _ _ _ S1 B1).mono ?_
  rintro e w2 ⟨q, ys, first, rfl, hG, hK, hb⟩
  have T2 := own_trans T1 hb
  have hE2 := HE.out.below T2
  unfold ErL at hE2
  have hf := HY.out _ _ hK
  obtain ⟨ad, cap, hv⟩ := hG.shape
  rw [hK.2.1.1.1] at hv
  subst hv
  clear hG hb S1 B1 hK T1
  go_wp2
  exact ⟨rfl, rfl, T2⟩
set_option maxRecDepth 100000 in
set_option maxHeartbeats 1000000 in
theorem goes_yes (p N M : Nat) (n : Int) (E : Nat → Option (List Int)) (hS : GoS p N n M E) (xs : List Int) (hxl : xs.length = N) (hxb : ∀ k, k < N → I64 (gv xs k)) (hg : GO p n N M (gv xs)) (v : Value) (L U U2 b : Nat) (a : Addr) (w : World) (hSl : Sl w L U v xs) (hB : SpB w U2 b N E) (hE : ErL w a) :
    Calls Tryd.prog 49 #[.agg #[(.int .i64 ((p : Int))), .slice (some ⟨b, 0, none⟩) N N], v] w fun e w' => e = .returned (.bool true) ∧ Below w.heap.size w w' := by
  have hmf : ∀ (fn : Fn) (first cap : Array Value) (w : World), (Instr.makeFunc fn first cap).run Tryd.prog w = .ok (.func fn first cap) w := fun _ _ _ _ => rfl
  have HM := Lib.hid (fun w v L U U2 hSl hB hE => mustGo_yes p N M n E hS xs hxl hxb hg v L U U2 b a w hSl hB hE)
  have H1 := Lib.hid (And.intro hSl hB)
  have HE := Lib.hid hE
  clear hS hxl hxb hg hSl hB hE
  go_enter_defers Tryd.func49, Tryd.ntmps49
  go_wp2_with fail
  have T1 : Below w.heap.size w ((w.alloc (.cells #[(.int .i64 ((p : Int))), .slice (some ⟨b, 0, none⟩) N N] 65)).alloc (.cells #[.bool true] 4)) := by repeat (first | with_reducible exact own_refl _ | with_reducible assumption | with_reducible apply own_alloc | with_reducible apply own_drewN | with_reducible apply own_drew | ((with_reducible refine own_setCell ?_ ?_ _); rotate_left; focus (first | (simp; done) | (simp; omega))) | (with_reducible (refine own_trans ?_ (by assumption))))
  have Bx : Box ((w.alloc (.cells #[(.int .i64 ((p : Int))), .slice (some ⟨b, 0, none⟩) N N] 65)).alloc (.cells #[.bool true] 4)) (w.heap.size + 1) [.bool true] := Box.newAt (by simp) _ _
  generalize (w.alloc (.cells #[(.int .i64 ((p : Int))), .slice (some ⟨b, 0, none⟩) N N] 65)).alloc (.cells #[.bool true] 4) = W at *
  refine (HM.out _ _ _ _ _ (H1.out.1.own T1) (H1.out.2.below (T1.mono H1.out.2.1)) (HE.out.below T1)).mono ?_
  rintro e w2 ⟨rfl, hb2⟩
  have T2 : Below w.heap.size w w2 := own_trans T1 hb2
  have B2 := Bx.below hb2
  obtain ⟨_, hq0, hq1⟩ := B2.one
  go_wp2
  refine leaves_cons (f := 78) (args := #[.pointer (some ⟨w.heap.size + 1, 0, none⟩)]) (by simp) (by simp [go_sem]) ?_
  refine (idleG ⟨w.heap.size + 1, 0, none⟩ _).mono ?_
  rintro e u' w'' ⟨rfl, rfl, rfl⟩
  have B3 := B2.set 0 (by simp) (.bool true)
  obtain ⟨_, hq, _⟩ := B3.one
  simp [Leaves, settle, results, Tryd.results49, go_sem, hq]
  repeat (first | with_reducible exact own_refl _ | with_reducible assumption | with_reducible apply own_alloc | with_reducible apply own_drewN | with_reducible apply own_drew | ((with_reducible refine own_setCell ?_ ?_ _); rotate_left; focus (first | (simp; done) | (simp; omega))) | (with_reducible (refine own_trans ?_ (by assumption))))
set_option maxRecDepth 100000 in
set_option maxHeartbeats 1000000 in
theorem goes_no (p N M : Nat) (n : Int) (E : Nat → Option (List Int)) (hS : GoS p N n M E) (xs : List Int) (hxl : xs.length = N) (hxb : ∀ k, k < N → I64 (gv xs k)) (hg : ¬ GO p n N M (gv xs)) (v : Value) (L U U2 b : Nat) (a : Addr) (w : World) (hSl : Sl w L U v xs) (hB : SpB w U2 b N E) (hE : ErL w a) :
    Calls Tryd.prog 49 #[.agg #[(.int .i64 ((p : Int))), .slice (some ⟨b, 0, none⟩) N N], v] w fun e w' => e = .returned (.bool false) ∧ Below w.heap.size w w' := by
  have hmf : ∀ (fn : Fn) (first cap : Array Value) (w : World), (Instr.makeFunc fn first cap).run Tryd.prog w = .ok (.func fn first cap) w := fun _ _ _ _ => rfl
  have HM := Lib.hid (fun w v L U U2 hSl hB hE => mustGo_no p N M n E hS xs hxl hxb hg v L U U2 b a w hSl hB hE)
  have H1 := Lib.hid (And.intro hSl hB)
  have HE := Lib.hid hE
  clear hS hxl hxb hg hSl hB hE
  go_enter_defers Tryd.func49, Tryd.ntmps49
  go_wp2_with fail
  have T1 : Below w.heap.size w ((w.alloc (.cells #[(.int .i64 ((p : Int))), .slice (some ⟨b, 0, none⟩) N N] 65)).alloc (.cells #[.bool true] 4)) := by repeat (first | with_reducible exact own_refl _ | with_reducible assumption | with_reducible apply own_alloc | with_reducible apply own_drewN | with_reducible apply own_drew | ((with_reducible refine own_setCell ?_ ?_ _); rotate_left; focus (first | (simp; done) | (simp; omega))) | (with_reducible (refine own_trans ?_ (by assumption))))
  have Bx : Box ((w.alloc (.cells #[(.int .i64 ((p : Int))), .slice (some ⟨b, 0, none⟩) N N] 65)).alloc (.cells #[.bool true] 4)) (w.heap.size + 1) [.bool true] := Box.newAt (by simp) _ _
  generalize (w.alloc (.cells #[(.int .i64 ((p : Int))), .slice (some ⟨b, 0, none⟩) N N] 65)).alloc (.cells #[.bool true] 4) = W at *
  refine (HM.out _ _ _ _ _ (H1.out.1.own T1) (H1.out.2.below (T1.mono H1.out.2.1)) (HE.out.below T1)).mono ?_
  rintro e w2 ⟨rfl, hb2⟩
  have T2 : Below w.heap.size w w2 := own_trans T1 hb2
  have B2 := Bx.below hb2
  obtain ⟨_, hq0, hq1⟩ := B2.one
  unfold leftPanic
  go_wp2
  refine leaves_cons (f := 78) (args := #[.pointer (some ⟨w.heap.size + 1, 0, none⟩)]) (by simp) (by simp [go_sem]) ?_
  refine (caughtG ⟨w.heap.size + 1, 0, none⟩ true a [] _ hq0 hq1).mono ?_
  rintro e u' w'' ⟨rfl, rfl, rfl⟩
  have B3 := B2.set 0 (by simp) (.bool false)
  obtain ⟨_, hq, _⟩ := B3.one
  simp [Leaves, settle, results, Tryd.results49, go_sem, hq]
  repeat (first | with_reducible exact own_refl _ | with_reducible assumption | with_reducible apply own_alloc | with_reducible apply own_drewN | with_reducible apply own_drew | ((with_reducible refine own_setCell ?_ ?_ _); rotate_left; focus (first | (simp; done) | (simp; omega))) | (with_reducible (refine own_trans ?_ (by assumption))))
end Go.Proofs.YtejghidllochoaaDoor
/- Goes: contracts of both sides, and the walk of its law. -/
namespace Go.Proofs.YtejghidllochoaaDoor
open Go.ChangeShapes Go.WideShapes Go.ChangeAt Go.RowKit
open Ech (Sp Rw Stair)

theorem Mixes.one {w : World} {g : Nat} (hg : w.heap.size = g) (v : Value) (xs : List Int) (L U : Nat) (hS : Sl w L U v xs) : Mixes (w.alloc (.cells #[v] 31)) (.slice (some ⟨g, 0, none⟩) 1 1) 1 (fun _ => v) (fun _ => xs) := by
  subst hg
  refine ⟨⟨_, 1, rfl, fun _ => ⟨w.heap.size, rfl, by simp, fun k hk => ?_⟩⟩, fun k _ => ⟨L, U, hS.own (own_alloc (own_refl w) _)⟩⟩
  obtain rfl : k = 0 := by omega
  exact ((Box.new w [v] 31).2 0 v rfl).1
/-- what is known where the code is 0 -/
theorem mpC_ok {n p : Int} {m : Nat} {xss : Nat → List Int} (h : mpC n p m xss = 0) : lpC n p = 0 ∧ ∀ k, k < m → (xss k).length = (ln n).length ∧ ∀ j, -1000000 ≤ gv (xss k) j ∧ gv (xss k) j ≤ 1000000 := by
  unfold mpC at h
  split at h
  · rename_i h5
    unfold mxC at h
    split at h
    · rename_i hl
      split at h
      · rename_i ha
        refine ⟨by unfold lpC; rw [if_pos h5]; exact hl, fun k hk => ?_⟩
        have hok : mixOk (idx0 n) (xss k) = true := by
          rcases hm : mixOk (idx0 n) (xss k) with _ | _
          · rw [allOk_no hk hm] at ha; cases ha
          · rfl
        unfold mixOk at hok
        rw [Bool.and_eq_true, decide_eq_true_eq] at hok
        have hlen := (lvC_len hl).1
        refine ⟨by omega, fun j => ?_⟩
        by_cases hj : j < (xss k).length
        · have := List.all_eq_true.1 hok.2 (gv (xss k) j) (by unfold gv; simp only [List.getD, List.getElem?_eq_getElem hj, Option.getD_some]; exact List.getElem_mem hj)
          simpa [inW] using this
        · have : gv (xss k) j = 0 := by simp [gv, List.getD, List.getElem?_eq_none (show (xss k).length ≤ j by omega)]
          omega
      · omega
    · omega
  · omega
theorem goS_of {p N : Nat} {n : Int} {E : Nat → Option (List Int)} (hlv : lvC n = 0) (hN : (ln n).length = N) (hp5 : Ech.fiveP p) (h : SPAN p n N (N + N) E) : GoS p N n (N + N) E := by
  obtain ⟨_, _, h3, h4⟩ := relN hlv
  rw [hN] at h3 h4
  exact ⟨hp5, h4, h3, h⟩
/-- the program's goes, as a bool -/
theorem goes_any (p N : Nat) (n : Int) (E : Nat → Option (List Int)) (hS : GoS p N n (N + N) E) (xs : List Int) (hxl : xs.length = N) (hxb : ∀ k, k < N → I64 (gv xs k)) (r : Bool) (hr : r = true ↔ GO p n N (N + N) (gv xs)) (v : Value) (L U U2 b : Nat) (a : Addr) (w : World) (hSl : Sl w L U v xs) (hB : SpB w U2 b N E) (hE : ErL w a) :
    Calls Tryd.prog 49 #[.agg #[(.int .i64 ((p : Int))), .slice (some ⟨b, 0, none⟩) N N], v] w fun e w' => e = .returned (.bool r) ∧ Below w.heap.size w w' := by
  cases r with
  | true => exact goes_yes p N (N + N) n E hS xs hxl hxb (hr.1 rfl) v L U U2 b a w hSl hB hE
  | false => exact goes_no p N (N + N) n E hS xs hxl hxb (fun h => by have := hr.2 h; cases this) v L U U2 b a w hSl hB hE
theorem implGo_no (n p c : Int) (xs : List Int) (hx : xs.length ≤ 4294967296) (hc : mpC n p 1 (fun _ => xs) = c) (h0 : c ≠ 0) (v : Value) (L U : Nat) (w : World) (hS : Sl w L U v xs) : Calls Tryd.prog 21 #[(.int .i64 n), (.int .i64 p), v] w fun e w' => e = .returned (.tuple #[.bool false, (.int .i64 c)]) ∧ Below w.heap.size w w' := by
  obtain ⟨av, cv, rfl⟩ : ∃ a c, v = .slice a xs.length c := by obtain ⟨_, a, c, e, _⟩ := hS; exact ⟨a, c, e⟩
  have HC := Lib.hid (fun (w : World) hM => codeModulo_is n p 1 (by omega) (.slice (some ⟨w.heap.size, 0, none⟩) 1 1) (fun _ => .slice av xs.length cv) (fun _ => xs) (fun _ _ => hx) c hc (w.alloc (.cells #[.slice av xs.length cv] 31)) hM)
  have HM := Lib.hid (Mixes.one rfl _ xs L U hS)
  have hne : (c != 0) = true := by simpa using h0
  clear hc h0 hS
  go_enter Tryd.func21, Tryd.ntmps21
  go_wp2_with fail
  refine (HC.out _ HM.out).mono ?_
  rintro e w2 ⟨rfl, hb2⟩
  go_wp2
  go_ret2
  exact ⟨rfl, by repeat (first | with_reducible exact own_refl _ | with_reducible assumption | with_reducible apply own_alloc | with_reducible apply own_drewN | with_reducible apply own_drew | ((with_reducible refine own_setCell ?_ ?_ _); rotate_left; focus (first | (simp; done) | (simp; omega))) | (with_reducible (refine own_trans ?_ (by assumption))))⟩
theorem implGo_yes (n : Int) (p N : Nat) (xs : List Int) (hc : mpC n p 1 (fun _ => xs) = 0) (hN : (ln n).length = N) (r : Bool) (hr : r = true ↔ GO p n N (N + N) (gv xs)) (v : Value) (L U : Nat) (a : Addr) (w : World) (hS : Sl w L U v xs) (hid : Idn w) (hmx : MxS w) (hE : ErL w a) :
    Calls Tryd.prog 21 #[(.int .i64 n), (.int .i64 ((p : Int))), v] w fun e w' => e = .returned (.tuple #[.bool r, (.int .i64 0)]) ∧ Below w.heap.size w w' := by
  obtain ⟨av, cv, rfl⟩ : ∃ a c, v = .slice a xs.length c := by obtain ⟨_, a, c, e, _⟩ := hS; exact ⟨a, c, e⟩
  obtain ⟨hl, hm⟩ := mpC_ok hc
  obtain ⟨hlv, p', hpp, hp5⟩ := lpC_0 hl
  obtain rfl : p = p' := by omega
  obtain ⟨hxl, hxb⟩ := hm 0 (by omega)
  rw [hN] at hxl
  obtain ⟨_, _, h3, h4⟩ := relN hlv
  rw [hN] at h3 h4
  have HC := Lib.hid (fun (w : World) hM => codeModulo_is n p 1 (by omega) (.slice (some ⟨w.heap.size, 0, none⟩) 1 1) (fun _ => .slice av xs.length cv) (fun _ => xs) (fun _ _ => by omega) 0 hc (w.alloc (.cells #[.slice av xs.length cv] 31)) hM)
  have HM := Lib.hid (Mixes.one rfl _ xs L U hS)
  have HSp := Lib.hid (fun w h1 h2 => spanOf_is n hlv p N hp5 hN w h1 h2)
  have HG := Lib.hid (fun E hSP v L U U2 b w hSl hB hE => goes_any p N n E (goS_of hlv hN hp5 hSP) xs hxl (fun k _ => by have := hxb k; unfold I64; omega) r hr v L U U2 b a w hSl hB hE)
  have HI := Lib.hid (And.intro hid (And.intro hmx hE))
  have HS := Lib.hid hS
  clear hl hm hlv hp5 hpp hxl hxb hc hN hr hid hmx hE hS
  go_enter Tryd.func21, Tryd.ntmps21
  go_wp2_with fail
  refine (HC.out _ HM.out).mono ?_
  rintro e w2 ⟨rfl, hb2⟩
  have T2 : Below w.heap.size w w2 := own_trans (own_alloc (own_refl w) _) hb2
  go_wp2_with fail
  refine (HSp.out _ (Rd.below HI.out.1 T2) (Rd.below HI.out.2.1 T2)).mono ?_
  rintro e w3 ⟨b, E, rfl, hB3, hSP, hb3⟩
  have T3 := own_trans T2 hb3
  have HSP := Lib.hid hSP
  clear hSP
  go_wp2_with fail
  refine (HG.out E HSP.out _ L U _ b _ (HS.out.own T3) hB3 (HI.out.2.2.below T3)).mono ?_
  rintro e w4 ⟨rfl, hb4⟩
  go_wp2
  go_ret2
  exact ⟨rfl, own_trans T3 hb4⟩
set_option maxHeartbeats 2000000 in
theorem l08Goes_is (n : Int) (p N : Nat) (hlv : lvC n = 0) (hp5 : Ech.fiveP p) (hN : (ln n).length = N) (xs : List Int) (hxl : xs.length = N) (hxb : ∀ k, k < N → I64 (gv xs k)) (r : Bool) (hr : r = true ↔ GO p n N (N + N) (gv xs)) (v : Value) (L U : Nat) (w : World) (hS : Sl w L U v xs) :
    Calls Tryd.prog 48 #[(.int .i64 n), (.int .i64 ((p : Int))), v] w fun e w' => e = .returned (.bool r) ∧ Below w.heap.size w w' := by
  obtain ⟨h1, h2, h3, h4⟩ := relN hlv
  rw [hN] at h3 h4
  have HL := Lib.hid (fun w => l06Line_is n h1 h2 w)
  have HR := Lib.hid (fun v L w hG => relations_is n hlv N hN v L w hG)
  have HD := Lib.hid (fun U v vs w hO => reduced_is n p N hlv hp5 hN U v vs w hO)
  have HLe := Lib.hid (fun m E A hR hm hm72 v vo vs L U U2 w hS hO => l08Left_is p N m hp5 h4 h3 E A hR hm hm72 xs hxl hxb v vo vs L U U2 w hS hO)
  have HG := Lib.hid (fun E A ys (h : SPAN p n N (N + N) E) (hR : Red p N E A) (ht : LT8 p N E A (gv xs) ys A.length) => (hr.trans (ht.goes hp5 h hR).symm : r = true ↔ ∀ k, k < N → gv ys k = 0))
  have HS := Lib.hid hS
  have hN0 := h4
  have hN7 := h3
  clear hlv hp5 hN h1 h2 h3 h4 hxl hxb hr hS
  go_enter Tryd.func48, Tryd.ntmps48
  go_wp2_with fail
  refine (HL.out _).mono ?_
  rintro e w3 ⟨v3, rfl, hG3, hb3⟩
  go_wp2_with fail
  refine (HR.out _ _ _ hG3).mono ?_
  rintro e w4 ⟨v4, vs, rfl, hM4, hb4⟩
  go_wp2_with fail
  refine (HD.out _ _ _ _ hM4).mono ?_
  rintro e w5 ⟨q, rs, E, A, rfl, hG5, hRd, hSp, hb5⟩
  have T5 := own_trans hb3 (own_trans hb4 hb5)
  have hAl := hRd.len
  have HRD := Lib.hid (And.intro hRd hSp)
  have HM5 := Lib.hid (hG5.mixU (m := A.length) (f := fun k => rowE E (A.getD k 0)) (by rw [List.length_map]) (fun k hk => map_getE hk))
  clear hRd hSp hG3 hM4 hG5 hb3 hb4 hb5
  go_wp2_with fail
  refine (HLe.out A.length E A HRD.out.1 rfl (by omega) v _ _ L U _ _ (HS.out.own T5) HM5.out).mono ?_
  rintro e w6 ⟨r6, ys, rfl, hG6, hLT, hb6⟩
  have HK := Lib.hid (HG.out E A ys HRD.out.2 HRD.out.1 hLT)
  obtain ⟨ad, cap, hv⟩ := hG6.shape
  rw [hLT.1.1] at hv
  subst hv
  obtain ⟨go, rfl, _, -, -⟩ := hG6.cellsZ hN0
  have T6 := own_trans T5 hb6
  clear hLT HM5 hb6
  go_wp2
  go_loopw [8] (fun x wr => ∃ k : Nat, k ≤ N ∧ x = (.int .i64 ((k : Int))) ∧ wr = w6 ∧ Hid (∀ j, j < k → gv ys j = 0)) (fun x _ => N - (intOf x).toNat)
  case atStart => exact ⟨0, Nat.zero_le _, rfl, by first | trivial | rfl, Lib.hid (fun j hj => by omega)⟩
  case round =>
    obtain ⟨k, hk, rfl, rfl, HZ⟩ := hrel
    by_cases hlt : k < N
    · obtain ⟨y, hy⟩ : ∃ y, gv ys k = y := ⟨_, rfl⟩
      obtain ⟨c1, _⟩ := hG6.at hlt
      rw [show ys.getD k 0 = y from hy] at c1
      by_cases hy0 : y = 0
      · have hy1 : (y != 0) = false := by simp [hy0]
        have HZ2 : Hid (∀ j, j < k + 1 → gv ys j = 0) := Lib.hid fun j hj => by
          rcases (show j = k ∨ j < k by omega) with rfl | h
          · rw [hy]; exact hy0
          · exact HZ.out j h
        clear hy hy0
        go_wp2
        go_roundw
        case rel => exact ⟨k + 1, by omega, by go_num, by first | trivial | rfl, HZ2⟩
        case measure => simp [intOf]; omega
      · have hy1 : (y != 0) = true := by simp [hy0]
        have HF : Hid (r = false) := Lib.hid (by
          cases r with
          | false => rfl
          | true => exact absurd (by rw [← hy]; exact (HK.out.1 rfl) k hlt) hy0)
        clear hy hy0
        go_wp2
        go_ret
        exact ⟨ret_bool HF.out.symm, T6⟩
    · obtain rfl : N = k := by omega
      have HT : Hid (r = true) := Lib.hid (HK.out.2 HZ.out)
      go_wp2
      go_ret
      exact ⟨ret_bool HT.out.symm, T6⟩
theorem specGo_no (n p c : Int) (xs : List Int) (hx : xs.length ≤ 4294967296) (hc : mpC n p 1 (fun _ => xs) = c) (h0 : c ≠ 0) (v : Value) (L U : Nat) (w : World) (hS : Sl w L U v xs) : Calls Tryd.prog 19 #[(.int .i64 n), (.int .i64 p), v] w fun e w' => e = .returned (.tuple #[.bool false, (.int .i64 c)]) ∧ Below w.heap.size w w' := by
  obtain ⟨av, cv, rfl⟩ : ∃ a c, v = .slice a xs.length c := by obtain ⟨_, a, c, e, _⟩ := hS; exact ⟨a, c, e⟩
  have HC := Lib.hid (fun (w : World) hM => l08Prime_is n p 1 (by omega) (.slice (some ⟨w.heap.size, 0, none⟩) 1 1) (fun _ => .slice av xs.length cv) (fun _ => xs) (fun _ _ => hx) c hc (w.alloc (.cells #[.slice av xs.length cv] 31)) hM)
  have HM := Lib.hid (Mixes.one rfl _ xs L U hS)
  have hne : (c != 0) = true := by simpa using h0
  clear hc h0 hS
  go_enter Tryd.func19, Tryd.ntmps19
  go_wp2_with fail
  refine (HC.out _ HM.out).mono ?_
  rintro e w2 ⟨rfl, hb2⟩
  go_wp2
  go_ret2
  exact ⟨rfl, by repeat (first | with_reducible exact own_refl _ | with_reducible assumption | with_reducible apply own_alloc | with_reducible apply own_drewN | with_reducible apply own_drew | ((with_reducible refine own_setCell ?_ ?_ _); rotate_left; focus (first | (simp; done) | (simp; omega))) | (with_reducible (refine own_trans ?_ (by assumption))))⟩
theorem specGo_yes (n : Int) (p N : Nat) (xs : List Int) (hc : mpC n p 1 (fun _ => xs) = 0) (hN : (ln n).length = N) (r : Bool) (hr : r = true ↔ GO p n N (N + N) (gv xs)) (v : Value) (L U : Nat) (w : World) (hS : Sl w L U v xs) :
    Calls Tryd.prog 19 #[(.int .i64 n), (.int .i64 ((p : Int))), v] w fun e w' => e = .returned (.tuple #[.bool r, (.int .i64 0)]) ∧ Below w.heap.size w w' := by
  obtain ⟨av, cv, rfl⟩ : ∃ a c, v = .slice a xs.length c := by obtain ⟨_, a, c, e, _⟩ := hS; exact ⟨a, c, e⟩
  obtain ⟨hl, hm⟩ := mpC_ok hc
  obtain ⟨hlv, p', hpp, hp5⟩ := lpC_0 hl
  obtain rfl : p = p' := by omega
  obtain ⟨hxl, hxb⟩ := hm 0 (by omega)
  rw [hN] at hxl
  obtain ⟨_, _, h3, _⟩ := relN hlv
  have HC := Lib.hid (fun (w : World) hM => l08Prime_is n p 1 (by omega) (.slice (some ⟨w.heap.size, 0, none⟩) 1 1) (fun _ => .slice av xs.length cv) (fun _ => xs) (fun _ _ => by omega) 0 hc (w.alloc (.cells #[.slice av xs.length cv] 31)) hM)
  have HM := Lib.hid (Mixes.one rfl _ xs L U hS)
  have HG := Lib.hid (fun v L U w hSl => l08Goes_is n p N hlv hp5 hN xs hxl (fun k _ => by have := hxb k; unfold I64; omega) r hr v L U w hSl)
  have HS := Lib.hid hS
  clear hl hm hlv hp5 hpp hxl hxb hc hN hr hS h3
  go_enter Tryd.func19, Tryd.ntmps19
  go_wp2_with fail
  refine (HC.out _ HM.out).mono ?_
  rintro e w2 ⟨rfl, hb2⟩
  have T2 : Below w.heap.size w w2 := own_trans (own_alloc (own_refl w) _) hb2
  go_wp2_with fail
  refine (HG.out _ L U _ (HS.out.own T2)).mono ?_
  rintro e w3 ⟨rfl, hb3⟩
  go_wp2
  go_ret2
  exact ⟨rfl, own_trans T2 hb3⟩
set_option maxHeartbeats 2000000 in
theorem lawGoes_of (n p : Int) (xs : List Int) (ad : Option Addr) (cap : Nat) (r : Bool) (k : Int) (a : Addr) (hn : xs.length ≤ 1048576)
    (hs : ∀ (v : Value) (L U : Nat) (w : World), Sl w L U v xs → Calls Tryd.prog 19 #[(.int .i64 n), (.int .i64 p), v] w fun e w' => e = .returned (.tuple #[.bool r, (.int .i64 k)]) ∧ Below w.heap.size w w')
    (hi : ∀ (v : Value) (L U : Nat) (w : World), Sl w L U v xs → Idn w → MxS w → ErL w a → Calls Tryd.prog 21 #[(.int .i64 n), (.int .i64 p), v] w fun e w' => e = .returned (.tuple #[.bool r, (.int .i64 k)]) ∧ Below w.heap.size w w') (w : World) (hr : Rs w ad xs) (hid : Idn w) (hmx : MxS w) (hE : ErL w a) :
    Calls Tryd.prog 6 #[(.int .i64 n), (.int .i64 p), .slice ad xs.length cap] w fun e w' => e = .returned (.bool true) ∧ Below w.heap.size w w' := by
  have HS := Lib.hid hs
  have HI := Lib.hid hi
  have HM := Lib.hid (And.intro hid (And.intro hmx hE))
  have hn1 : (xs.length : Int) ≤ 1048576 := by omega
  clear hs hi hid hmx hE
  go_enter Tryd.func6, Tryd.ntmps6
  go_wp2_with fail
  refine (toS_any ad cap xs hn _ hr).mono ?_
  rintro e w1 ⟨v1, rfl, s1, hb1⟩
  go_wp2_with fail
  refine (HS.out _ _ _ _ s1).mono ?_
  rintro e w2 ⟨rfl, hb2⟩
  have T2 : Below w.heap.size w w2 := own_trans hb1 hb2
  go_wp2_with fail
  refine (toS_any ad cap xs hn _ (hr.below T2)).mono ?_
  rintro e w3 ⟨v3, rfl, s3, hb3⟩
  have T3 : Below w.heap.size w w3 := own_trans T2 hb3
  go_wp2_with fail
  refine (HI.out _ _ _ _ s3 (Rd.below HM.out.1 T3) (Rd.below HM.out.2.1 T3) (HM.out.2.2.below T3)).mono ?_
  rintro e w4 ⟨rfl, hb4⟩
  have s4 := s3.own hb4
  have T4 := own_trans T3 hb4
  go_wp2_with fail
  refine (toS_any ad cap xs hn _ (hr.below T4)).mono ?_
  rintro e w6 ⟨v6, rfl, s6, hb6⟩
  have s7 := s4.own hb6
  go_wp2_with fail
  refine (eqS_same _ _ xs _ _ _ _ _ (by omega) s7 s6).mono ?_
  rintro e w7 ⟨rfl, hb7⟩
  go_wp2
  go_ret
  exact ⟨rfl, own_trans T4 (own_trans hb6 hb7)⟩
set_option maxHeartbeats 1000000 in
theorem lawGoes_long (n p : Int) (xs : List Int) (ad : Option Addr) (cap : Nat) (hn : ¬ xs.length ≤ 1048576) (hn' : xs.length ≤ 9223372036854775807) (w : World) :
    Calls Tryd.prog 6 #[(.int .i64 n), (.int .i64 p), .slice ad xs.length cap] w fun e w' => e = .returned (.bool true) ∧ Below w.heap.size w w' := by
  have hn1 : (1048576 : Int) < (xs.length : Int) := by omega
  go_enter Tryd.func6, Tryd.ntmps6
  go_wp2
  go_ret
  exact ⟨rfl, own_refl _⟩
theorem go_dec (P : Prop) : ∃ r : Bool, r = true ↔ P := by
  classical
  exact ⟨decide P, decide_eq_true_iff⟩
theorem lawGoes_walk (n p : Int) (xs : List Int) (ad : Option Addr) (cap : Nat) (w : World) (_ : I64 n) (_ : I64 p) (hr : Rs w ad xs) (_ : ∀ x ∈ xs, I64 x) (hn : xs.length ≤ 9223372036854775807) (hmx : MxS w) (hid : Idn w) (a : Addr) (hE : ErL w a) :
    Calls Tryd.prog 6 #[(.int .i64 n), (.int .i64 p), .slice ad xs.length cap] w fun e w' => e = .returned (.bool true) ∧ Below w.heap.size w w' := by
  by_cases h1 : xs.length ≤ 1048576
  · by_cases hc : mpC n p 1 (fun _ => xs) = 0
    · obtain ⟨_, p', rfl, _⟩ := lpC_0 (mpC_ok hc).1
      obtain ⟨r, hg⟩ := go_dec (GO p' n (ln n).length ((ln n).length + (ln n).length) (gv xs))
      exact lawGoes_of n p' xs ad cap r 0 a h1 (fun v L U w hS => specGo_yes n p' _ xs hc rfl r hg v L U w hS) (fun v L U w hS h2 h3 h4 => implGo_yes n p' _ xs hc rfl r hg v L U a w hS h2 h3 h4) w hr hid hmx hE
    · exact lawGoes_of n p xs ad cap false _ a h1 (fun v L U w hS => specGo_no n p _ xs (by omega) rfl hc v L U w hS) (fun v L U w hS _ _ _ => implGo_no n p _ xs (by omega) rfl hc v L U w hS) w hr hid hmx hE
  · exact lawGoes_long n p xs ad cap h1 hn w
end Go.Proofs.YtejghidllochoaaDoor
