/- Maps whose elements are matrices: what a call's own map looks up as. -/
import Derived.Test.YtdcomnnpnhinfaaDoorMat
import Derived.Maps.OwnSet
import Derived.Maps.Views
import Derived.StringKeys
namespace Go.Proofs.YtdcomnnpnhinfaaDoor
open Go.ChangeShapes Go.WideShapes Go.ChangeAt Go.RowKit

def matV (m : Mat) : Value := (.agg #[.int .i64 m.a, .int .i64 m.b, .int .i64 m.c, .int .i64 m.d])
/-- A matrix as data. -/
def matD (m : Mat) : DataW Unit := .agg [.lit (.int .i64 m.a), .lit (.int .i64 m.b), .lit (.int .i64 m.c), .lit (.int .i64 m.d)]
theorem matD_inj {m n : Mat} (h : matD m = matD n) : m = n := by
  cases m; cases n
  simp only [matD, DataW.agg.injEq, List.cons.injEq, DataW.lit.injEq, Lit.int.injEq, true_and, and_true] at h
  obtain ⟨rfl, rfl, rfl, rfl⟩ := h
  rfl
open Classical in
/-- How a matrix reads as an element. -/
noncomputable def matR (v : Value) : Option (DataW Unit × List MemPlace) := if h : ∃ m, v = matV m then some (matD (Classical.choose h), []) else none
theorem matV_inj {m n : Mat} (h : matV m = matV n) : m = n := by
  cases m; cases n
  simp only [matV, Value.agg.injEq, Array.mk.injEq, List.cons.injEq, Value.int.injEq, true_and, and_true] at h
  obtain ⟨rfl, rfl, rfl, rfl⟩ := h
  rfl
theorem matR_mk (m : Mat) : matR (matV m) = some (matD m, []) := by
  have h : ∃ n, matV m = matV n := ⟨m, rfl⟩
  unfold matR
  rw [dif_pos h, ← matV_inj (Classical.choose_spec h)]
theorem matR_inv {v : Value} {z : DataW Unit × List MemPlace} (h : matR v = some z) : ∃ m, v = matV m ∧ z = (matD m, []) := by
  unfold matR at h
  split at h
  · rename_i hv
    exact ⟨_, Classical.choose_spec hv, (Option.some.inj h).symm⟩
  · cases h

/-- Block b is a map of at most n entries, of the type t with keys of the type k, that looks up as f. -/
def LMn (w : World) (t k : TypeId) (b : Nat) (f : Lit → Option Mat) (n : Nat) : Prop :=
  Tryd.prog.underlying t = some (.map k 58) ∧ ∃ (D : DataW Unit), w.ownsMap Tryd.prog k matR b n D ∧ Maps.IsMap D ∧
    ∀ kl z, D.atKey kl z = ((f kl).map matD).getD z ∧ Maps.has D kl = (f kl).isSome
theorem LMn.made (w : World) (t k : TypeId) (ht : Tryd.prog.underlying t = some (.map k 58)) : LMn (w.alloc (.map #[] 0)) t k w.heap.size (fun _ => none) 0 :=
  ⟨ht, .map [], World.ownsMap_made _ _ _ _, Maps.isMap_empty, fun _ _ => ⟨rfl, rfl⟩⟩
open Classical in
theorem LMn.put {w : World} {t k : TypeId} {b n : Nat} {f : Lit → Option Mat} (h : LMn w t k b f n) (K : Maps.Keyed Tryd.prog k) (hn : n ≤ 1000) (key : Value) (kl : Lit) (m : Mat) (hkey : keyOf Tryd.prog k key = some kl) (hl : WideAt.IsKeyLit kl) :
    ∃ w', (Instr.mapUpdate t (.map (some b)) key (matV m)).run Tryd.prog w = .ok () w' ∧ LMn w' t k b (fun x => if x = kl then some m else f x) (n + 1) ∧ w.grownBy w' (some b) := by
  obtain ⟨ht, D, hown, hD, hf⟩ := h
  obtain ⟨w', hr, h1, h2⟩ := hown.update K ht (by unfold maxLen; omega) hkey (matR_mk m)
  refine ⟨w', hr, ⟨ht, _, h1, hD.put _ _, fun x z => ?_⟩, h2⟩
  dsimp only
  by_cases hx : x = kl
  · subst hx
    rw [if_pos rfl, Maps.atKey_put_same hD hl, Maps.has_put_same hD hl]
    exact ⟨rfl, rfl⟩
  · rw [if_neg hx, Maps.atKey_put_other hx, Maps.has_put_other hx]
    exact hf x z
theorem LMn.lt {w : World} {t k : TypeId} {b n : Nat} {f : Lit → Option Mat} (h : LMn w t k b f n) : b < w.heap.size := by
  obtain ⟨_, _, hown, _⟩ := h
  exact hown.lt
theorem LMn.kept {w w' : World} {t k : TypeId} {b n : Nat} {f : Lit → Option Mat} (h : LMn w t k b f n) {row : Option Nat} (hg : w.grownBy w' row) (hne : some b ≠ row) : LMn w' t k b f n := by
  obtain ⟨ht, D, hown, r⟩ := h
  exact ⟨ht, D, hown.kept hg hne, r⟩
theorem LMn.below {w w' : World} {t k : TypeId} {b n : Nat} {f : Lit → Option Mat} (h : LMn w t k b f n) (hb : Below w.heap.size w w') : LMn w' t k b f n :=
  h.kept (row := none) ⟨hb.os, hb.tape, hb.output, hb.size, fun k hk _ => hb.block k hk⟩ (by simp)
theorem LMn.drew {w : World} {t k : TypeId} {b n : Nat} {f : Lit → Option Mat} (h : LMn w t k b f n) : LMn w.drew t k b f n := h
theorem LMn.alloc {w : World} {t k : TypeId} {b n : Nat} {f : Lit → Option Mat} (h : LMn w t k b f n) (o : Obj) : LMn (w.alloc o) t k b f n := h.below (own_alloc (own_refl w) o)
theorem zero_mat (w : World) : (zeroValue 58).run Tryd.prog w = .ok (matV Mat.zero) w := by kernel_rfl
theorem LMn.look {w : World} {t k : TypeId} {b n : Nat} {f : Lit → Option Mat} (h : LMn w t k b f n) (K : Maps.Keyed Tryd.prog k) (key : Value) (kl : Lit) (hkey : keyOf Tryd.prog k key = some kl) :
    (Instr.lookup t (.map (some b)) key true).run Tryd.prog w = .ok (.tuple #[matV ((f kl).getD Mat.zero), .bool (f kl).isSome]) w := by
  obtain ⟨ht, D, hown, hD, hf⟩ := h
  obtain ⟨v, ps, hr, hv⟩ := hown.look_ok K ht (zero_mat w) (matR_mk Mat.zero) hkey
  obtain ⟨m, rfl, hz⟩ := matR_inv hv
  obtain ⟨h1, h2⟩ := hf kl (matD Mat.zero)
  rw [hr, h2]
  have h3 : D.atKey kl (matD Mat.zero) = matD m := (Prod.mk.inj hz).1
  rw [h1] at h3
  have h4 : m = (f kl).getD Mat.zero := by
    cases hfk : f kl with
    | none => rw [hfk] at h3; exact (matD_inj h3).symm
    | some x => rw [hfk] at h3; exact (matD_inj h3).symm
  rw [h4]
theorem LMn.look1 {w : World} {t k : TypeId} {b n : Nat} {f : Lit → Option Mat} (h : LMn w t k b f n) (K : Maps.Keyed Tryd.prog k) (key : Value) (kl : Lit) (hkey : keyOf Tryd.prog k key = some kl) :
    (Instr.lookup t (.map (some b)) key false).run Tryd.prog w = .ok (matV ((f kl).getD Mat.zero)) w := by
  obtain ⟨ht, D, hown, hD, hf⟩ := h
  obtain ⟨v, ps, hr, hv⟩ := hown.lookup K ht (zero_mat w) (matR_mk Mat.zero) hkey
  obtain ⟨m, rfl, hz⟩ := matR_inv hv
  obtain ⟨h1, h2⟩ := hf kl (matD Mat.zero)
  rw [hr]
  have h3 : D.atKey kl (matD Mat.zero) = matD m := (Prod.mk.inj hz).1
  rw [h1] at h3
  have h4 : m = (f kl).getD Mat.zero := by
    cases hfk : f kl with
    | none => rw [hfk] at h3; exact (matD_inj h3).symm
    | some x => rw [hfk] at h3; exact (matD_inj h3).symm
  rw [h4]
/-- What turns when a map of a call's own is written. -/
theorem below_put {w0 w w' : World} {b B : Nat} (hT : Below B w0 w) (hB : B ≤ b) (hg : w.grownBy w' (some b)) (hz : B ≤ w.heap.size) : Below B w0 w' :=
  hT.grown hg hz (fun k e => by cases e; exact hB)
end Go.Proofs.YtdcomnnpnhinfaaDoor
