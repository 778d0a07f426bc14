/- At every integer GenusOf of the program answers as its model does, where the tables of the identity and of S hold their numbers, and its answer is its own. -/
import Derived.Test.YtfchfakkbdfajaaDoorGen
import Derived.Test.YtfchfakkbdfajaaDoorGka
import Derived.Test.YtfchfakkbdfajaaDoorGkb
import Derived.Test.YtfchfakkbdfajaaDoorGkc
import Derived.Test.YtfchfakkbdfajaaDoorGkd
import Derived.Test.YtfchfakkbdfajaaDoorGke
import Derived.Test.YtfchfakkbdfajaaDoorGkf
import Derived.Test.YtfchfakkbdfajaaDoorGkg
import Derived.Test.YtfchfakkbdfajaaDoorOpen
import Derived.Test.YtfchfakkbdfajaaDoorCards
import Derived.Test.YtfchfakkbdfajaaDoorTie
import Derived.Test.YtfchfakkbdfajaaDoorMxS
import Derived.Test.YtfchfakkbdfajaaDoorIdn
import Derived.Deep.DeepHandedRow
import Derived.Lib.LaidTab
import Derived.Lay
import Derived.LaidMore
import Derived.LaidSub
namespace Go.Proofs.YtfchfakkbdfajaaDoor
open Go.ChangeShapes Go.WideShapes Go.ChangeAt Go.RowKit


theorem chk_all {n : Nat} (h1 : 1 ≤ n) (h2 : n ≤ 60) : chkG n = true := by
  rcases (show n < 16 ∨ (16 ≤ n ∧ n < 31) ∨ (31 ≤ n ∧ n < 40) ∨ (40 ≤ n ∧ n < 46) ∨ (46 ≤ n ∧ n < 51) ∨ (51 ≤ n ∧ n < 55) ∨ (55 ≤ n ∧ n < 58) ∨ 58 ≤ n by omega) with h | h | h | h | h | h | h | h
  · exact chkR_at chk_z h1 (by omega)
  · exact chkR_at chk_a h.1 h.2
  · exact chkR_at chk_b h.1 h.2
  · exact chkR_at chk_c h.1 h.2
  · exact chkR_at chk_d h.1 h.2
  · exact chkR_at chk_e h.1 h.2
  · exact chkR_at chk_f h.1 h.2
  · exact chkR_at chk_g h (by omega)

theorem Ge_both (n : Int) : ∃ x k : Int,
    (∀ w : World, Calls Tryd.prog 19 #[(.int .i64 n)] w fun e w' => e = .returned (.tuple #[(.int .i64 x), (.int .i64 k)]) ∧ Below w.heap.size w w') ∧
    (∀ w : World, Idn w → MxS w → Calls Tryd.prog 20 #[(.int .i64 n)] w fun e w' => e = .returned (.tuple #[(.int .i64 x), (.int .i64 k)]) ∧ Below w.heap.size w w') := by
  rcases hn : inR n 1 60 with _ | _
  · exact ⟨_, _, specGe_no n hn, fun w _ _ => implGe_no n hn w⟩
  · have hn' : 1 ≤ n ∧ n ≤ 60 := of_decide_eq_true hn
    obtain ⟨m, rfl⟩ : ∃ m : Nat, n = m := ⟨n.toNat, by omega⟩
    obtain ⟨c1, c2⟩ := chkG_is (chk_all (n := m) (by omega) (by omega))
    have hl := ln_len hn'.2
    have hu := (cus_len (m : Int) (ln (m : Int)).length).2
    refine ⟨_, _, specGe_yes m hn _ rfl _ rfl, implGe_yes m hn _ rfl _ (by rw [Int.toNat_natCast]; exact c2) (by omega) (by rw [Int.toNat_natCast]; exact c1) _ rfl⟩
theorem lawGenusOf_walk (n : Int) (_ : I64 n) (w : World) (hmx : MxS w) (hid : Idn w) :
    Calls Tryd.prog 6 #[(.int .i64 n)] w fun e w' => e = .returned (.bool true) ∧ Below w.heap.size w w' := by
  obtain ⟨x, k, hs, hi⟩ := Ge_both n
  exact lawGenusOf_of n x k hs hi w hid hmx
end Go.Proofs.YtfchfakkbdfajaaDoor
namespace Go.Proofs.YtfchfakkbdfajaaDoor.fnExactGenusOf
open Go.ChangeShapes Go.WideShapes Go.ChangeAt Go.RowKit
theorem trodVars_len {H : Type} {enc : TypeId × Value → H} {P : Program} {W : World} {sp : Nat → Bool} : ∀ {ns : List String} {gs : List (DataW H)} {ps : List MemPlace}, DataW.TrodVars enc P W sp ns gs ps → gs.length = ns.length
  | [], [], _, _ => rfl
  | [], _ :: _, _, h => h.elim
  | _ :: _, [], _, h => h.elim
  | _ :: _, _ :: _, _, h => by
    obtain ⟨_, _, _, _, _, q, _, _, _, _, hs, _⟩ := h
    simp [trodVars_len hs]
set_option maxRecDepth 1000000 in
theorem contract (H : Type) (enc : TypeId × Value → H) (W : World) (base : Nat) (args : Array Value) (ds gs : List (DataW H)) (before : List MemPlace)
    (hval : ∀ (j : Nat) t v, Tryd.f6.params[j]? = some t → args[j]? = some v → Value.okWide Tryd.prog W .any base t v)
    (hW : DataW.Whole enc Tryd.prog Tryd.f6.params.toList Rows.fnExactGenusOfSpec.vars false W args.toList ds gs before) (hL : laidMetH Tryd.prog Rows.fnExactGenusOfRow.laid W) :
    Calls Tryd.prog 6 args W fun e W' => ∃ v, e = .returned v ∧ Rows.fnExactGenusOfSpec.post enc Tryd.prog Tryd.f6 false true false false W args v W' := by
  have hW' := hW
  obtain ⟨p, q, hA0, hV, rfl, hfz, hnd⟩ := hW
  have hA : DataW.TrodAll enc Tryd.prog W 0 (fun _ => true) true Tryd.f6.params.toList args.toList ds p := hA0
  rw [Tryd.params6] at hA hval
  obtain ⟨v0, vs0, d0, ds0, p0, q0, hargs, rfl, rfl, h0, r0⟩ := trodAll_cons hA
  obtain ⟨rfl, rfl, rfl⟩ := trodAll_nil r0
  obtain rfl : args = #[v0] := by cases args; simp_all
  obtain ⟨g0, g1, hg0⟩ : ∃ g0 g1, gs = [g0, g1] := by
    have hlen : gs.length = 2 := trodVars_len hV
    match gs, hlen with
    | [g0, g1], _ => exact ⟨_, _, rfl⟩
  subst hg0
  obtain ⟨a0, rfl, rfl, rfl, wa0⟩ := open_int Tryd.underlying2 (hval 0 2 v0 rfl rfl) h0
  clear hA0
  simp only [List.append_nil] at hW'
  have L0 := mxs_of (show laidMetH Tryd.prog [("loop.example/g01380/impl.matrixS", Rows.laid_loop_example_g01380_impl_matrixS)] W from laidMetH.filter (fun x => x.1 == "loop.example/g01380/impl.matrixS") hL)
  have L1 := idn_of (show laidMetH Tryd.prog [("loop.example/g01380/impl.identity", Rows.laid_loop_example_g01380_impl_identity)] W from laidMetH.filter (fun x => x.1 == "loop.example/g01380/impl.identity") hL)
  refine (lawGenusOf_walk a0 (i64_of_wf wa0) W L0 L1).mono fun e W' ⟨he, hg⟩ => ?_
  subst he
  exact ⟨_, rfl, post_vars (pa := []) (pv := q) hW' (fun _ _ _ => trodAll_cons_mk (shut_bool Tryd.underlying4 _) trodAll_mk0) (fun sp _ => (trodAll_cons_mk (shut_int Tryd.underlying2 wa0) trodAll_mk0)) (Below.trodVars (by kernel_rfl) hg (by kernel_rfl) hV) rfl hg⟩
theorem laid_met (os : Os) : laidMet Tryd.prog Rows.fnExactGenusOfRow.laid ((World.laidAll Tryd.prog os Rows.fnExactGenusOfRow.laid).forCall (fun _ _ => 0) ⟨#[], #[.int .i64 0], []⟩).memory :=
  laidMet_laidAll _ (by kernel_rfl) (by kernel_rfl)
theorem reads (os : Os) {H : Type} (enc : TypeId × Value → H) : ∃ x, DataW.whole enc Tryd.prog ((World.laidAll Tryd.prog os Rows.fnExactGenusOfRow.laid).forCall (fun _ _ => 0) ⟨#[], #[.int .i64 0], []⟩).memory Tryd.f6.params.toList Rows.fnExactGenusOfSpec.vars false #[(.int .i64 0 : Value)].toList 8 = some x := by
  have h : (DataW.whole enc Tryd.prog ((World.laidAll Tryd.prog os Rows.fnExactGenusOfRow.laid).forCall (fun _ _ => 0) ⟨#[], #[.int .i64 0], []⟩).memory Tryd.f6.params.toList Rows.fnExactGenusOfSpec.vars false #[(.int .i64 0 : Value)].toList 8).isSome = true := by kernel_rfl
  exact Option.isSome_iff_exists.1 h

set_option maxRecDepth 100000 in
theorem lifted (os : Os) (started : os.Started) (H : Type) (enc : TypeId × Value → H) (F : Stop.Interp) :
    ReturnsInHanded {} Tryd.checked os 6 .any ((OpenSpec.ofChange Rows.fnExactGenusOfSpec).preRow enc Tryd.prog Tryd.f6 Rows.fnExactGenusOfRow.domain false Rows.fnExactGenusOfRow.laid) (((OpenSpec.ofChange Rows.fnExactGenusOfSpec).at F).post enc Tryd.prog Tryd.f6 false true false false) := by
  obtain ⟨x, hx⟩ := reads os enc
  refine returnsInHanded_of_row (C := Tryd.checked) (s := OpenSpec.ofChange Rows.fnExactGenusOfSpec) own started (by kernel_rfl) Tryd.func6
    (witness_row_at (enc := enc) (C := Tryd.checked) false (World.laidAll Tryd.prog os Rows.fnExactGenusOfRow.laid) #[.int .i64 0] (World.laidAll_os _ _ _) (by kernel_rfl) (by kernel_rfl) (by kernel_rfl)
      (OpenSpec.preRow_of_cond 8 hx (by kernel_rfl) (fun k hk => by cases hk) (by kernel_rfl) (laid_met os))) ?_
  intro W base args ds gs before hval hW _ _ _ hL _ _
  exact contract H enc W base args ds gs before hval hW hL

theorem said : Rows.FnExactGenusOfSaid :=
  OpenClaim.holds_of_cond 6 Tryd.f6 rfl rfl rfl rfl rfl rfl rfl ⟨rfl, rfl, rfl, rfl, rfl⟩ rfl rfl rfl rfl rfl (by kernel_rfl) Tryd.func6 (by kernel_rfl)
    (of_decide_eq_true (by kernel_rfl)) (by unfold Func.isWrapper; first | (rw [if_pos (by decide +kernel)]; kernel_rfl) | (rw [if_neg (by decide +kernel)]; exact ⟨rfl, rfl⟩))
    (fun os started H enc _ F => by rw [OpenClaim.pre_eq_preRow]; exact lifted os started H enc F)

theorem plain (f : FuncId) (fn : Func) (hf : Tryd.pinned.checked.prog.funcNamed "loop.example/g01380/laws.FnExactGenusOf" = some f) (hfn : Tryd.pinned.checked.prog.funcs[f]? = some fn) :
    false = Tryd.pinned.checked.prog.looks [] ∧ ∀ (j : Nat) t, fn.params[j]? = some t → Tryd.pinned.checked.prog.wantsStandIn t = false := by
  obtain rfl : f = 6 := Option.some.inj ((show Tryd.prog.funcNamed "loop.example/g01380/laws.FnExactGenusOf" = some 6 by kernel_rfl).symm.trans hf) |>.symm
  obtain rfl : fn = Tryd.f6 := (Option.some.inj (Tryd.func6.symm.trans hfn)).symm
  refine ⟨by kernel_rfl, fun j t ht => ?_⟩
  rw [Tryd.params6] at ht
  have hm := Array.mem_of_getElem? ht
  simp only [List.mem_toArray, List.mem_cons, List.not_mem_nil, or_false] at hm
  subst hm
  exact (show Tryd.prog.wantsStandIn 2 = false by kernel_rfl)

theorem proved : Rows.FnExactGenusOfCardSaid :=
  Claim7.holds_tied_plain_at .later [] _ _ _ _ said (fun _ h => by cases h) (by kernel_rfl) (fun _ h => by cases h) fnExactGenusOf_row_tie rfl ⟨rfl, rfl⟩ (by kernel_rfl) rfl plain (by kernel_rfl)
end Go.Proofs.YtfchfakkbdfajaaDoor.fnExactGenusOf
