/- Maps from pairs to numbers: what a call's own map looks up as. -/
import Derived.Test.YtdcomnnpnhinfaaDoorBase
import Derived.Maps.OwnSet
import Derived.Maps.Views
import Derived.WideKeyPair
import Derived.DeepKeys3
import Derived.Test.YtdcomnnpnhinfaaDoorLnO
import Derived.Test.YtdcomnnpnhinfaaDoorLnX
namespace Go.Proofs.YtdcomnnpnhinfaaDoor
open Go.ChangeShapes Go.WideShapes Go.ChangeAt Go.RowKit

theorem pair_wide : (match Tryd.prog.underlying 101 with | some (.array _ _) | some (.struct _) => true | _ => false) = true := by rw [Tryd.underlying101]
set_option maxRecDepth 100000 in
theorem pair_keyed : Maps.Keyed Tryd.prog 101 := Maps.Keyed.of_law (deep_law (m := 2) (by omega) (by kernel_rfl) (by kernel_rfl) pair_wide)
def prV (p : Int × Int) : Value := .agg #[(.int .i64 p.1), (.int .i64 p.2)]
/-- A pair as a key is told. -/
def kP (p : Int × Int) : Lit := .string (keyBytes [.int .i64 p.1, .int .i64 p.2])
theorem wf_i64 {x : Int} (h : I64 x) : (Lit.int .i64 x).wf = true := by
  unfold I64 at h
  have h1 : IntKind.i64.min = -9223372036854775808 := by decide
  have h2 : IntKind.i64.max = 9223372036854775807 := by decide
  simp only [Lit.wf, h1, h2]
  simp
  omega
theorem size_typesP : ∃ m, Tryd.prog.types.size = m + 1 := ⟨Tryd.prog.types.size - 1, by have : 0 < Tryd.prog.types.size := of_decide_eq_true (by kernel_rfl); omega⟩
theorem pair_keyType : Tryd.prog.keyType 101 = true := by kernel_rfl
theorem pair_cells : Tryd.prog.cellsOf 101 = 2 := by kernel_rfl
theorem i64_cells : Tryd.prog.cellsOf 2 = 1 := by kernel_rfl
theorem keyOf_pr (p : Int × Int) (h1 : I64 p.1) (h2 : I64 p.2) : keyOf Tryd.prog 101 (prV p) = some (kP p) := by
  have wa := wf_i64 h1
  have wb := wf_i64 h2
  obtain ⟨n, hn⟩ := size_typesP
  have he := Tryd.underlying2
  have hu := Tryd.underlying101
  unfold keyOf prV
  simp only [hu]
  rw [if_pos (by simp [pair_keyType, Value.formed, hu, pair_cells]), hn]
  unfold Program.keyLits
  simp only [hu, Value.cells]
  rw [if_pos (by constructor <;> simp [pair_cells])]
  simp [Program.keyLits, he, wa, wb, kP, i64_cells]
theorem prV_inj {p q : Int × Int} (h : prV p = prV q) : p = q := by
  cases p; cases q
  simp only [prV, Value.agg.injEq, Array.mk.injEq, List.cons.injEq, Value.int.injEq, true_and, and_true] at h
  obtain ⟨rfl, rfl⟩ := h
  rfl
theorem kP_inj {p q : Int × Int} (p1 : I64 p.1) (p2 : I64 p.2) (q1 : I64 q.1) (q2 : I64 q.2) (h : kP p = kP q) : p = q :=
  prV_inj (pair_keyed.inj (keyOf_pr p p1 p2) (h ▸ keyOf_pr q q1 q2))
theorem kP_lit (p : Int × Int) : WideAt.IsKeyLit (kP p) := trivial
def intRP (v : Value) : Option (DataW Unit × List MemPlace) := match v with | .int .i64 n => some (.lit (.int .i64 n), []) | _ => none
theorem intRP_inv {v : Value} {z : DataW Unit × List MemPlace} (h : intRP v = some z) : ∃ n : Int, v = (.int .i64 n) ∧ z = (.lit (.int .i64 n), []) := by
  unfold intRP at h
  split at h
  · exact ⟨_, rfl, (Option.some.inj h).symm⟩
  · cases h
/-- Block b is a map of n entries that looks up as f. -/
def PK (w : World) (b : Nat) (f : Lit → Option Int) (n : Nat) : Prop :=
  ∃ (D : DataW Unit), w.ownsMap Tryd.prog 101 intRP b n D ∧ Maps.Tidy D ∧ Maps.size D = n ∧ ∀ kl z, D.atKey kl z = ((f kl).map fun c => .lit (.int .i64 c)).getD z ∧ Maps.has D kl = (f kl).isSome
theorem PK.made (w : World) : PK (w.alloc (.map #[] 0)) w.heap.size (fun _ => none) 0 := ⟨.map [], World.ownsMap_made _ _ _ _, Maps.tidy_empty, rfl, fun _ _ => ⟨rfl, rfl⟩⟩
open Classical in
theorem PK.put {w : World} {b n : Nat} {f : Lit → Option Int} (h : PK w b f n) (hn : n ≤ 100000) (p : Int × Int) (p1 : I64 p.1) (p2 : I64 p.2) (c : Int) (hnew : f (kP p) = none) :
    ∃ w', (Instr.mapUpdate 95 (.map (some b)) (prV p) (.int .i64 c)).run Tryd.prog w = .ok () w' ∧ PK w' b (fun x => if x = kP p then some c else f x) (n + 1) ∧ w.grownBy w' (some b) := by
  obtain ⟨D, hown, hD, hs, hf⟩ := h
  obtain ⟨w', hr, h1, h2⟩ := hown.update pair_keyed Tryd.underlying95 (by unfold maxLen; omega) (keyOf_pr p p1 p2) (val := (.int .i64 c)) (d := .lit (.int .i64 c)) (ps := []) rfl
  refine ⟨w', hr, ⟨_, h1, hD.put (kP_lit p) _, ?_, fun x z => ?_⟩, h2⟩
  · have h0 := (hf (kP p) .nil).2
    rw [hnew] at h0
    rw [Maps.size_put hD, h0, hs]
    rfl
  · dsimp only
    by_cases hx : x = kP p
    · subst hx
      rw [if_pos rfl, Maps.atKey_put_same hD.isMap (kP_lit p), Maps.has_put_same hD.isMap (kP_lit p)]
      exact ⟨rfl, rfl⟩
    · rw [if_neg hx, Maps.atKey_put_other hx, Maps.has_put_other hx]
      exact hf x z
theorem PK.len {w : World} {b n : Nat} {f : Lit → Option Int} (h : PK w b f n) (ty : TypeId) : (Builtin.len_ #[95] ty #[.map (some b)]).run Tryd.prog w = .ok (.int .i64 ((n : Int))) w := by
  obtain ⟨D, hown, hD, hs, hf⟩ := h
  have := hown.len Tryd.underlying95 ty
  rwa [hs] at this
theorem PK.lt {w : World} {b n : Nat} {f : Lit → Option Int} (h : PK w b f n) : b < w.heap.size := by
  obtain ⟨_, hown, _⟩ := h
  exact hown.lt
theorem PK.kept {w w' : World} {b n : Nat} {f : Lit → Option Int} (h : PK w b f n) {row : Option Nat} (hg : w.grownBy w' row) (hne : some b ≠ row) : PK w' b f n := by
  obtain ⟨D, hown, r⟩ := h
  exact ⟨D, hown.kept hg hne, r⟩
theorem PK.below {w w' : World} {b n : Nat} {f : Lit → Option Int} (h : PK w b f n) (hb : Below w.heap.size w w') : PK w' b f n :=
  h.kept (row := none) ⟨hb.os, hb.tape, hb.output, hb.size, fun k hk _ => hb.block k hk⟩ (by simp)
theorem zero_intP (w : World) : (zeroValue 2).run Tryd.prog w = .ok (.int .i64 0) w := by kernel_rfl
theorem PK.look {w : World} {b n : Nat} {f : Lit → Option Int} (h : PK w b f n) (p : Int × Int) (p1 : I64 p.1) (p2 : I64 p.2) (c : Int) (hc : f (kP p) = some c) :
    (Instr.lookup 95 (.map (some b)) (prV p) false).run Tryd.prog w = .ok (.int .i64 c) w := by
  obtain ⟨D, hown, hD, hs, hf⟩ := h
  obtain ⟨v, ps, hr, hv⟩ := hown.lookup pair_keyed Tryd.underlying95 (zero_intP w) (zd := .lit (.int .i64 0)) (zp := []) rfl (keyOf_pr p p1 p2)
  obtain ⟨x, rfl, hz⟩ := intRP_inv hv
  obtain ⟨h1, h2⟩ := hf (kP p) (.lit (.int .i64 0))
  have h3 : D.atKey (kP p) (.lit (.int .i64 0)) = .lit (.int .i64 x) := (Prod.mk.inj hz).1
  rw [h1, hc] at h3
  simp at h3
  rw [h3]
  exact hr
open Classical in
/-- The numbers of the first pairs of a list. -/
noncomputable def fN (ps : List (Int × Int)) : Lit → Option Int := (ps.zipIdx).foldl (fun f (p, i) => fun x => if x = kP p then some (i : Int) else f x) (fun _ => none)
theorem fN_snoc (ps : List (Int × Int)) (p : Int × Int) : fN (ps ++ [p]) = fun x => open Classical in if x = kP p then some (ps.length : Int) else fN ps x := by
  unfold fN
  rw [List.zipIdx_append, List.foldl_append]
  simp
open Classical in
theorem fN_snocA (ps : List (Int × Int)) (p : Int × Int) (x : Lit) : fN (ps ++ [p]) x = if x = kP p then some (ps.length : Int) else fN ps x := by rw [fN_snoc]
theorem snoc_indP {q : List (Int × Int) → Prop} (h0 : q []) (h1 : ∀ xs x, q xs → q (xs ++ [x])) : ∀ xs, q xs := by
  intro xs
  rw [← List.reverse_reverse xs]
  induction xs.reverse with
  | nil => exact h0
  | cons x r ih => rw [List.reverse_cons]; exact h1 _ _ ih
def AllI (ps : List (Int × Int)) : Prop := ∀ p ∈ ps, I64 p.1 ∧ I64 p.2
theorem fN_none : ∀ (ps : List (Int × Int)) (q : Int × Int), AllI ps → I64 q.1 → I64 q.2 → q ∉ ps → fN ps (kP q) = none := by
  refine snoc_indP (fun q _ _ _ _ => rfl) (fun ps p ih q hA h1 h2 hq => ?_)
  rw [fN_snocA]
  simp only [List.mem_append, List.mem_singleton, not_or] at hq
  have hp := hA p (by simp)
  rw [if_neg (fun e => hq.2 (kP_inj h1 h2 hp.1 hp.2 e))]
  exact ih q (fun p hp => hA p (by simp [hp])) h1 h2 hq.1
theorem fN_at : ∀ (ps : List (Int × Int)) (K : Nat), AllI ps → ps.Nodup → K < ps.length → fN ps (kP (ps.getD K (0, 0))) = some (K : Int) := by
  refine snoc_indP (fun K _ _ h => by simp at h) (fun ps p ih K hA hN hK => ?_)
  rw [fN_snocA]
  simp only [List.length_append, List.length_cons, List.length_nil] at hK
  have hN' := List.nodup_append.1 hN
  by_cases e : K = ps.length
  · subst e
    have e1 : (ps ++ [p]).getD ps.length (0, 0) = p := by simp [List.getD]
    rw [e1, if_pos rfl]
  · have hK' : K < ps.length := by omega
    have e1 : (ps ++ [p]).getD K (0, 0) = ps.getD K (0, 0) := by simp [List.getD, List.getElem?_append_left hK']
    rw [e1]
    have hm : ps.getD K (0, 0) ∈ ps := by
      simp only [List.getD, List.getElem?_eq_getElem hK', Option.getD_some]
      exact List.getElem_mem hK'
    have hq := hA _ (List.mem_append_left [p] hm)
    have hp := hA p (by simp)
    rw [if_neg (fun e2 => hN'.2.2 _ hm p (by simp) (kP_inj hq.1 hq.2 hp.1 hp.2 e2))]
    exact ih K (fun p hp => hA p (by simp [hp])) hN'.1 hK'
end Go.Proofs.YtdcomnnpnhinfaaDoor
/- The numbers of a line: the program's map. -/
namespace Go.Proofs.YtdcomnnpnhinfaaDoor
open Go.ChangeShapes Go.WideShapes Go.ChangeAt Go.RowKit Go.Shelf
attribute [local go_sem] Oper.semAt_some

/-- What numbers keeps between two rounds. -/
def NI (w : World) (pre : List (Int × Int)) (W : World) : Prop :=
  Below w.heap.size w W ∧ w.heap.size + 2 < W.heap.size ∧ Box W (w.heap.size + 1 + 1) [.map (some (w.heap.size + 1))] ∧ PK W (w.heap.size + 1) (fN pre) pre.length
theorem ln_i64 {n : Int} (h : n ≤ 60) : AllI (ln n) := fun p hp => by
  obtain ⟨a, b, c, d⟩ := lnL_memX hp
  unfold I64
  omega
set_option maxRecDepth 100000 in
set_option maxHeartbeats 4000000 in
theorem numbers_any (n : Int) (n1 : 1 ≤ n) (n2 : n ≤ 60) (gu ou cu : Nat) (w : World) (hC : Cs w gu ou (cop n n.toNat)) :
    Calls Tryd.prog 64 #[.agg #[(.int .i64 n), .slice (some ⟨gu, ou, none⟩) (cop n n.toNat).length cu]] w fun e w' => ∃ b, e = .returned (.map (some b)) ∧ w.heap.size ≤ b ∧ PK w' b (fN (ln n)) (ln n).length ∧ Below w.heap.size w w' := by
  refine (callsIn_wide (n := 3)).1 ?_
  have hro : Fence.wide.round = none := rfl
  refine callsIn_of_wp_marks Tryd.func64 rfl trivial ?_ hro
  simp only [Tryd.ntmps64, List.size_toArray, List.length_cons, List.length_nil, Nat.reduceAdd, Nat.reduceSub, Array.replicate_succ, Array.replicate_zero, List.push_toArray, List.append_toArray, List.nil_append, List.cons_append]
  have hgu := hC.1
  have hmm := @run_makeMap Tryd.prog
  gi_wp2_with fail
  refine ⟨trivial, (callsIn_wide.2 (line_func n _ _)).mono ?_⟩
  rintro e w3' ⟨rfl, rfl⟩
  gi_wp2_with fail
  have T3 : Below w.heap.size w ((((w.alloc (.cells #[(.int .i64 n), .slice (some ⟨gu, ou, none⟩) (cop n n.toNat).length cu] 54)).alloc (.map #[] 0)).alloc (.cells #[.map (some (w.heap.size + 1))] 95)).alloc (.cells #[(.int .i64 n), .slice (some ⟨gu, ou, none⟩) (cop n n.toNat).length cu] 54)) := own_alloc (own_alloc (own_alloc (own_alloc (own_refl _) _) _) _) _
  have hs3 : ((((w.alloc (.cells #[(.int .i64 n), .slice (some ⟨gu, ou, none⟩) (cop n n.toNat).length cu] 54)).alloc (.map #[] 0)).alloc (.cells #[.map (some (w.heap.size + 1))] 95)).alloc (.cells #[(.int .i64 n), .slice (some ⟨gu, ou, none⟩) (cop n n.toNat).length cu] 54)).heap.size = w.heap.size + 4 := by simp
  have BC : Box ((((w.alloc (.cells #[(.int .i64 n), .slice (some ⟨gu, ou, none⟩) (cop n n.toNat).length cu] 54)).alloc (.map #[] 0)).alloc (.cells #[.map (some (w.heap.size + 1))] 95)).alloc (.cells #[(.int .i64 n), .slice (some ⟨gu, ou, none⟩) (cop n n.toNat).length cu] 54)) (w.heap.size + 1 + 1 + 1) [(.int .i64 n), .slice (some ⟨gu, ou, none⟩) (cop n n.toNat).length cu] := Box.newAt (by simp) _ _
  have BM : Box ((((w.alloc (.cells #[(.int .i64 n), .slice (some ⟨gu, ou, none⟩) (cop n n.toNat).length cu] 54)).alloc (.map #[] 0)).alloc (.cells #[.map (some (w.heap.size + 1))] 95)).alloc (.cells #[(.int .i64 n), .slice (some ⟨gu, ou, none⟩) (cop n n.toNat).length cu] 54)) (w.heap.size + 1 + 1) [.map (some (w.heap.size + 1))] := Box.alloc (Box.newAt (by simp) _ _) _
  have PM : PK ((((w.alloc (.cells #[(.int .i64 n), .slice (some ⟨gu, ou, none⟩) (cop n n.toNat).length cu] 54)).alloc (.map #[] 0)).alloc (.cells #[.map (some (w.heap.size + 1))] 95)).alloc (.cells #[(.int .i64 n), .slice (some ⟨gu, ou, none⟩) (cop n n.toNat).length cu] 54)) (w.heap.size + 1) (fN []) 0 := by
    have h := PK.made (w.alloc (.cells #[(.int .i64 n), .slice (some ⟨gu, ou, none⟩) (cop n n.toNat).length cu] 54))
    rw [World.size_alloc] at h
    exact (h.below (own_alloc (own_refl _) _)).below (own_alloc (own_refl _) _)
  have hC3 : Cs ((((w.alloc (.cells #[(.int .i64 n), .slice (some ⟨gu, ou, none⟩) (cop n n.toNat).length cu] 54)).alloc (.map #[] 0)).alloc (.cells #[.map (some (w.heap.size + 1))] 95)).alloc (.cells #[(.int .i64 n), .slice (some ⟨gu, ou, none⟩) (cop n n.toNat).length cu] 54)) gu ou (cop n n.toNat) := hC.below T3
  generalize (((w.alloc (.cells #[(.int .i64 n), .slice (some ⟨gu, ou, none⟩) (cop n n.toNat).length cu] 54)).alloc (.map #[] 0)).alloc (.cells #[.map (some (w.heap.size + 1))] 95)).alloc (.cells #[(.int .i64 n), .slice (some ⟨gu, ou, none⟩) (cop n n.toNat).length cu] 54) = W3 at *
  have I3 : NI w [] W3 := ⟨T3, by omega, BM, PM⟩
  have OI : OwnC W3.heap.size (W3.heap.size + 2) (NI w) := by
    rintro s X Y row ⟨h1, h2, h3, h4⟩ hg hr
    exact ⟨h1.grown hg (by omega) (fun k e => by have := hr k e; omega), Nat.lt_of_lt_of_le h2 hg.size, h3.rowC hg (fun r e => by have := hr r e; omega), h4.kept hg (fun e => by have := hr _ e.symm; omega)⟩
  have hKw : ∀ b, (b = w.heap.size + 1 + 1 + 1 ∨ b = gu) → b ≠ w.heap.size + 1 ∧ b ≠ w.heap.size + 1 + 1 ∧ b < W3.heap.size := fun b hb => by
    rcases hb with rfl | rfl <;> omega
  refine rangeZ (gf := 89) (lb := #[.pointer (some ⟨w.heap.size + 1 + 1 + 1, 0, none⟩)]) rfl (fun _ _ => by kernel_rfl) (lineSeq n n1 n2 (w.heap.size + 1 + 1 + 1) gu ou cu (fun b => b = w.heap.size + 1 + 1 + 1 ∨ b = gu) (.inl rfl) (.inr rfl) W3 BC hC3) (own_refl _) (fun b hb => (hKw b hb).2.2) (fun _ => rfl)
    (NI w) (fun _ _ _ => False) OI (fun _ _ _ _ _ h _ _ => h) I3 (fun x a' W => ∃ g, W3.heap.size + 2 ≤ g ∧ Box W g [(.int .i64 x.1), (.int .i64 x.2)] ∧ a' = { tmps := #[.agg #[(.int .i64 n), .slice (some ⟨gu, ou, none⟩) (cop n n.toNat).length cu], .pointer (some ⟨w.heap.size, 0, none⟩), .map none, .pointer (some ⟨w.heap.size + 1 + 1, 0, none⟩), .pointer (some ⟨g, 0, none⟩), .map (some (w.heap.size + 1)), .agg #[(.int .i64 n), .slice (some ⟨gu, ou, none⟩) (cop n n.toNat).length cu], .func (.func 89) #[] #[.pointer (some ⟨w.heap.size + 1 + 1 + 1, 0, none⟩)], .agg #[(.int .i64 x.1), (.int .i64 x.2)], undef, undef, undef, undef, undef], defers := [] }) ?hAx ?assign ?body ?done ?stop
  case hAx =>
    rintro x s X Y row ⟨g, h1, h2, h3⟩ hg hr
    exact ⟨g, h1, h2.rowC hg (fun r e => by have := hr r e; omega), h3⟩
  case assign =>
    rintro l pre x W K hI hz hK
    simp only [encP]
    gi_wp2
    exact hK _ _ (KeepZ.grown (World.grownBy_alloc _ _ none) (fun r e => by cases e)) (OI.belowZ hI (own_alloc (own_refl _) _)) ⟨W.heap.size, hz, Box.new _ _ _, rfl⟩
  case body =>
    rintro l pre x a' W hI ⟨g, hg, hB, rfl⟩ hz hnx
    obtain ⟨T, hsz, B0, G⟩ := hI
    have hsub := hnx.subset
    have hxl : x ∈ ln n := hsub (by simp)
    have hxi := ln_i64 n2 x hxl
    have hpi : AllI pre := fun p hp => ln_i64 n2 p (hsub (by simp [hp]))
    have hxn : x ∉ pre := fun hm => by
      have hnd := (ln_nodup n).sublist hnx.sublist
      exact (List.nodup_append.1 hnd).2.2 _ hm x (by simp) rfl
    have hlen : pre.length ≤ 3600 := by
      have := hnx.length_le
      have h2 := ln_len n2
      simp at this
      omega
    obtain ⟨x0, x1⟩ := x
    obtain ⟨_, g0, g1, _, _⟩ := hB.two
    obtain ⟨_, hv0, hv1⟩ := B0.one
    obtain ⟨w6, hr, hP6, hg6⟩ := G.put (by omega) (x0, x1) hxi.1 hxi.2 (pre.length : Int) (fN_none pre (x0, x1) hpi hxi.1 hxi.2 hxn)
    have hl := G.len
    simp only [prV] at hr g0 g1
    clear hsub hxl hpi hxn hnx
    gi_wp2
    refine ⟨KeepZ.grown hg6 fun r e => ?_, ?_, ?_, ?_, ?_⟩
    · injection e with e
      rintro (h | h)
      · have := hKw r h; omega
      · omega
    · exact T.grown hg6 (by omega) (fun k e => by injection e with e; omega)
    · have := hg6.size; omega
    · exact B0.rowC hg6 (fun r e => by injection e with e; omega)
    · rw [fN_snoc, List.length_append]
      exact hP6
  case done =>
    rintro ys W hS hI hD
    obtain ⟨T, hsz, B0, G⟩ := hI
    obtain ⟨_, hv0, hv1⟩ := B0.one
    gi_wp2
    refine ⟨by simp, .inl ⟨_, _, rfl, run_takeDeferred hD, ?_⟩⟩
    exact ⟨_, by simp [results, Tryd.results64, go_sem], w.heap.size + 1, rfl, by omega, by rw [← hS]; exact G.kept (grownBy_putObj' W W3.heap.size (.deferred none)) (fun e => by injection e with e; omega), T.grown (grownBy_putObj' _ _ _) T.size (fun k e => by cases e; omega)⟩
  case stop =>
    rintro c pre W hpre hI hD
    exact hI.elim
end Go.Proofs.YtdcomnnpnhinfaaDoor
