/- Maps from pairs to numbers: what a call's own map looks up as. -/
import Derived.Test.YtejghidllochoaaDoorBase
import Derived.Maps.OwnSet
import Derived.Maps.Views
import Derived.WideKeyPair
import Derived.DeepKeys3
namespace Go.Proofs.YtejghidllochoaaDoor
open Go.ChangeShapes Go.WideShapes Go.ChangeAt Go.RowKit

theorem pair_wide : (match Tryd.prog.underlying 88 with | some (.array _ _) | some (.struct _) => true | _ => false) = true := by rw [Tryd.underlying88]
set_option maxRecDepth 100000 in
theorem pair_keyed : Maps.Keyed Tryd.prog 88 := Maps.Keyed.of_law (deep_law (m := 2) (by omega) (by kernel_rfl) (by kernel_rfl) pair_wide)
def prV (p : Int × Int) : Value := .agg #[(.int .i64 p.1), (.int .i64 p.2)]
/-- A pair as a key is told. -/
def kP (p : Int × Int) : Lit := .string (keyBytes [.int .i64 p.1, .int .i64 p.2])
theorem wf_i64 {x : Int} (h : I64 x) : (Lit.int .i64 x).wf = true := by
  unfold I64 at h
  have h1 : IntKind.i64.min = -9223372036854775808 := by decide
  have h2 : IntKind.i64.max = 9223372036854775807 := by decide
  simp only [Lit.wf, h1, h2]
  simp
  omega
theorem size_typesP : ∃ m, Tryd.prog.types.size = m + 1 := ⟨Tryd.prog.types.size - 1, by have : 0 < Tryd.prog.types.size := of_decide_eq_true (by kernel_rfl); omega⟩
theorem pair_keyType : Tryd.prog.keyType 88 = true := by kernel_rfl
theorem pair_cells : Tryd.prog.cellsOf 88 = 2 := by kernel_rfl
theorem i64_cells : Tryd.prog.cellsOf 2 = 1 := by kernel_rfl
theorem keyOf_pr (p : Int × Int) (h1 : I64 p.1) (h2 : I64 p.2) : keyOf Tryd.prog 88 (prV p) = some (kP p) := by
  have wa := wf_i64 h1
  have wb := wf_i64 h2
  obtain ⟨n, hn⟩ := size_typesP
  have he := Tryd.underlying2
  have hu := Tryd.underlying88
  unfold keyOf prV
  simp only [hu]
  rw [if_pos (by simp [pair_keyType, Value.formed, hu, pair_cells]), hn]
  unfold Program.keyLits
  simp only [hu, Value.cells]
  rw [if_pos (by constructor <;> simp [pair_cells])]
  simp [Program.keyLits, he, wa, wb, kP, i64_cells]
theorem prV_inj {p q : Int × Int} (h : prV p = prV q) : p = q := by
  cases p; cases q
  simp only [prV, Value.agg.injEq, Array.mk.injEq, List.cons.injEq, Value.int.injEq, true_and, and_true] at h
  obtain ⟨rfl, rfl⟩ := h
  rfl
theorem kP_inj {p q : Int × Int} (p1 : I64 p.1) (p2 : I64 p.2) (q1 : I64 q.1) (q2 : I64 q.2) (h : kP p = kP q) : p = q :=
  prV_inj (pair_keyed.inj (keyOf_pr p p1 p2) (h ▸ keyOf_pr q q1 q2))
theorem kP_lit (p : Int × Int) : WideAt.IsKeyLit (kP p) := trivial
def intRP (v : Value) : Option (DataW Unit × List MemPlace) := match v with | .int .i64 n => some (.lit (.int .i64 n), []) | _ => none
theorem intRP_inv {v : Value} {z : DataW Unit × List MemPlace} (h : intRP v = some z) : ∃ n : Int, v = (.int .i64 n) ∧ z = (.lit (.int .i64 n), []) := by
  unfold intRP at h
  split at h
  · exact ⟨_, rfl, (Option.some.inj h).symm⟩
  · cases h
/-- Block b is a map of n entries that looks up as f. -/
def PK (w : World) (b : Nat) (f : Lit → Option Int) (n : Nat) : Prop :=
  ∃ (D : DataW Unit), w.ownsMap Tryd.prog 88 intRP b n D ∧ Maps.Tidy D ∧ Maps.size D = n ∧ ∀ kl z, D.atKey kl z = ((f kl).map fun c => .lit (.int .i64 c)).getD z ∧ Maps.has D kl = (f kl).isSome
theorem PK.made (w : World) : PK (w.alloc (.map #[] 0)) w.heap.size (fun _ => none) 0 := ⟨.map [], World.ownsMap_made _ _ _ _, Maps.tidy_empty, rfl, fun _ _ => ⟨rfl, rfl⟩⟩
open Classical in
theorem PK.put {w : World} {b n : Nat} {f : Lit → Option Int} (h : PK w b f n) (hn : n ≤ 100000) (p : Int × Int) (p1 : I64 p.1) (p2 : I64 p.2) (c : Int) (hnew : f (kP p) = none) :
    ∃ w', (Instr.mapUpdate 82 (.map (some b)) (prV p) (.int .i64 c)).run Tryd.prog w = .ok () w' ∧ PK w' b (fun x => if x = kP p then some c else f x) (n + 1) ∧ w.grownBy w' (some b) := by
  obtain ⟨D, hown, hD, hs, hf⟩ := h
  obtain ⟨w', hr, h1, h2⟩ := hown.update pair_keyed Tryd.underlying82 (by unfold maxLen; omega) (keyOf_pr p p1 p2) (val := (.int .i64 c)) (d := .lit (.int .i64 c)) (ps := []) rfl
  refine ⟨w', hr, ⟨_, h1, hD.put (kP_lit p) _, ?_, fun x z => ?_⟩, h2⟩
  · have h0 := (hf (kP p) .nil).2
    rw [hnew] at h0
    rw [Maps.size_put hD, h0, hs]
    rfl
  · dsimp only
    by_cases hx : x = kP p
    · subst hx
      rw [if_pos rfl, Maps.atKey_put_same hD.isMap (kP_lit p), Maps.has_put_same hD.isMap (kP_lit p)]
      exact ⟨rfl, rfl⟩
    · rw [if_neg hx, Maps.atKey_put_other hx, Maps.has_put_other hx]
      exact hf x z
theorem PK.len {w : World} {b n : Nat} {f : Lit → Option Int} (h : PK w b f n) (ty : TypeId) : (Builtin.len_ #[82] ty #[.map (some b)]).run Tryd.prog w = .ok (.int .i64 ((n : Int))) w := by
  obtain ⟨D, hown, hD, hs, hf⟩ := h
  have := hown.len Tryd.underlying82 ty
  rwa [hs] at this
theorem PK.lt {w : World} {b n : Nat} {f : Lit → Option Int} (h : PK w b f n) : b < w.heap.size := by
  obtain ⟨_, hown, _⟩ := h
  exact hown.lt
theorem PK.kept {w w' : World} {b n : Nat} {f : Lit → Option Int} (h : PK w b f n) {row : Option Nat} (hg : w.grownBy w' row) (hne : some b ≠ row) : PK w' b f n := by
  obtain ⟨D, hown, r⟩ := h
  exact ⟨D, hown.kept hg hne, r⟩
theorem PK.below {w w' : World} {b n : Nat} {f : Lit → Option Int} (h : PK w b f n) (hb : Below w.heap.size w w') : PK w' b f n :=
  h.kept (row := none) ⟨hb.os, hb.tape, hb.output, hb.size, fun k hk _ => hb.block k hk⟩ (by simp)
theorem zero_intP (w : World) : (zeroValue 2).run Tryd.prog w = .ok (.int .i64 0) w := by kernel_rfl
theorem PK.look {w : World} {b n : Nat} {f : Lit → Option Int} (h : PK w b f n) (p : Int × Int) (p1 : I64 p.1) (p2 : I64 p.2) (c : Int) (hc : f (kP p) = some c) :
    (Instr.lookup 82 (.map (some b)) (prV p) false).run Tryd.prog w = .ok (.int .i64 c) w := by
  obtain ⟨D, hown, hD, hs, hf⟩ := h
  obtain ⟨v, ps, hr, hv⟩ := hown.lookup pair_keyed Tryd.underlying82 (zero_intP w) (zd := .lit (.int .i64 0)) (zp := []) rfl (keyOf_pr p p1 p2)
  obtain ⟨x, rfl, hz⟩ := intRP_inv hv
  obtain ⟨h1, h2⟩ := hf (kP p) (.lit (.int .i64 0))
  have h3 : D.atKey (kP p) (.lit (.int .i64 0)) = .lit (.int .i64 x) := (Prod.mk.inj hz).1
  rw [h1, hc] at h3
  simp at h3
  rw [h3]
  exact hr
open Classical in
/-- The numbers of the first pairs of a list. -/
noncomputable def fN (ps : List (Int × Int)) : Lit → Option Int := (ps.zipIdx).foldl (fun f (p, i) => fun x => if x = kP p then some (i : Int) else f x) (fun _ => none)
theorem fN_snoc (ps : List (Int × Int)) (p : Int × Int) : fN (ps ++ [p]) = fun x => open Classical in if x = kP p then some (ps.length : Int) else fN ps x := by
  unfold fN
  rw [List.zipIdx_append, List.foldl_append]
  simp
open Classical in
theorem fN_snocA (ps : List (Int × Int)) (p : Int × Int) (x : Lit) : fN (ps ++ [p]) x = if x = kP p then some (ps.length : Int) else fN ps x := by rw [fN_snoc]
theorem snoc_indP {q : List (Int × Int) → Prop} (h0 : q []) (h1 : ∀ xs x, q xs → q (xs ++ [x])) : ∀ xs, q xs := by
  intro xs
  rw [← List.reverse_reverse xs]
  induction xs.reverse with
  | nil => exact h0
  | cons x r ih => rw [List.reverse_cons]; exact h1 _ _ ih
def AllI (ps : List (Int × Int)) : Prop := ∀ p ∈ ps, I64 p.1 ∧ I64 p.2
theorem fN_none : ∀ (ps : List (Int × Int)) (q : Int × Int), AllI ps → I64 q.1 → I64 q.2 → q ∉ ps → fN ps (kP q) = none := by
  refine snoc_indP (fun q _ _ _ _ => rfl) (fun ps p ih q hA h1 h2 hq => ?_)
  rw [fN_snocA]
  simp only [List.mem_append, List.mem_singleton, not_or] at hq
  have hp := hA p (by simp)
  rw [if_neg (fun e => hq.2 (kP_inj h1 h2 hp.1 hp.2 e))]
  exact ih q (fun p hp => hA p (by simp [hp])) h1 h2 hq.1
theorem fN_at : ∀ (ps : List (Int × Int)) (K : Nat), AllI ps → ps.Nodup → K < ps.length → fN ps (kP (ps.getD K (0, 0))) = some (K : Int) := by
  refine snoc_indP (fun K _ _ h => by simp at h) (fun ps p ih K hA hN hK => ?_)
  rw [fN_snocA]
  simp only [List.length_append, List.length_cons, List.length_nil] at hK
  have hN' := List.nodup_append.1 hN
  by_cases e : K = ps.length
  · subst e
    have e1 : (ps ++ [p]).getD ps.length (0, 0) = p := by simp [List.getD]
    rw [e1, if_pos rfl]
  · have hK' : K < ps.length := by omega
    have e1 : (ps ++ [p]).getD K (0, 0) = ps.getD K (0, 0) := by simp [List.getD, List.getElem?_append_left hK']
    rw [e1]
    have hm : ps.getD K (0, 0) ∈ ps := by
      simp only [List.getD, List.getElem?_eq_getElem hK', Option.getD_some]
      exact List.getElem_mem hK'
    have hq := hA _ (List.mem_append_left [p] hm)
    have hp := hA p (by simp)
    rw [if_neg (fun e2 => hN'.2.2 _ hm p (by simp) (kP_inj hq.1 hq.2 hp.1 hp.2 e2))]
    exact ih K (fun p hp => hA p (by simp [hp])) hN'.1 hK'
end Go.Proofs.YtejghidllochoaaDoor
