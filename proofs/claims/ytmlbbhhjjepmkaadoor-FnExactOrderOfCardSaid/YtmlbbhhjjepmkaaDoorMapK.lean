/- Maps from matrices to numbers: what a call's own map looks up as. -/
import Derived.Test.YtmlbbhhjjepmkaaDoorOrdM
import Derived.Test.YtmlbbhhjjepmkaaDoorMapM
import Derived.WideKeyPair
namespace Go.Proofs.YtmlbbhhjjepmkaaDoor
open Go.ChangeShapes Go.WideShapes Go.ChangeAt Go.RowKit

theorem mat_arr : WideMaps.ArrKey Tryd.prog 32 2 4 := ⟨Tryd.underlying32, by kernel_rfl, by kernel_rfl, by kernel_rfl⟩
theorem mat_keyed : Maps.Keyed Tryd.prog 32 := Maps.Keyed.of_law mat_arr.law
/-- A matrix as a key is told. -/
def kM (m : Mat) : Lit := .string (keyBytes [.int .i64 m.a, .int .i64 m.b, .int .i64 m.c, .int .i64 m.d])
theorem wf_ent {x : Int} (h : Ent x) : (Lit.int .i64 x).wf = true := by
  unfold Ent at h
  have h1 : IntKind.i64.min = -9223372036854775808 := by decide
  have h2 : IntKind.i64.max = 9223372036854775807 := by decide
  simp only [Lit.wf, h1, h2]
  simp
  omega
theorem size_types : ∃ m, Tryd.prog.types.size = m + 1 := ⟨Tryd.prog.types.size - 1, by have : 0 < Tryd.prog.types.size := of_decide_eq_true (by kernel_rfl); omega⟩
theorem keyOf_mat (m : Mat) (h : m.ok = true) : keyOf Tryd.prog 32 (matV m) = some (kM m) := by
  obtain ⟨ha, hb, hc, hd⟩ := Mat.ok_ent h
  have wa := wf_ent ha
  have wb := wf_ent hb
  have wc := wf_ent hc
  have wd := wf_ent hd
  have hkt := mat_arr.keyType size_types
  obtain ⟨n, hn⟩ := size_types
  have he := Tryd.underlying2
  unfold keyOf matV
  simp only [mat_arr.hu]
  rw [if_pos (by simp [hkt, Value.formed, mat_arr.hu, mat_arr.size]), hn]
  unfold Program.keyLits
  simp only [mat_arr.hu, Value.cells]
  rw [if_pos (by rw [mat_arr.size]; rfl), show List.range 4 = [0, 1, 2, 3] from rfl, List.mapM_cons, List.mapM_cons, List.mapM_cons, List.mapM_cons, List.mapM_nil]
  simp [mat_arr.one, Program.keyLits, he, wa, wb, wc, wd, kM]
theorem kM_inj {p q : Mat} (hp : p.ok = true) (hq : q.ok = true) (h : kM p = kM q) : p = q :=
  matV_inj (mat_keyed.inj (keyOf_mat p hp) (h ▸ keyOf_mat q hq))
theorem kM_lit (p : Mat) : WideAt.IsKeyLit (kM p) := trivial

/-- How a number reads as an element. -/
def intR (v : Value) : Option (DataW Unit × List MemPlace) := match v with | .int .i64 n => some (.lit (.int .i64 n), []) | _ => none
theorem intR_inv {v : Value} {z : DataW Unit × List MemPlace} (h : intR v = some z) : ∃ n : Int, v = (.int .i64 n) ∧ z = (.lit (.int .i64 n), []) := by
  unfold intR at h
  split at h
  · exact ⟨_, rfl, (Option.some.inj h).symm⟩
  · cases h
/-- Block b is a map of at most n entries that looks up as f. -/
def LK (w : World) (b : Nat) (f : Lit → Option Int) (n : Nat) : Prop :=
  ∃ (D : DataW Unit), w.ownsMap Tryd.prog 32 intR b n D ∧ Maps.IsMap D ∧ ∀ kl z, D.atKey kl z = ((f kl).map fun c => .lit (.int .i64 c)).getD z ∧ Maps.has D kl = (f kl).isSome
theorem LK.made (w : World) : LK (w.alloc (.map #[] 0)) w.heap.size (fun _ => none) 0 := ⟨.map [], World.ownsMap_made _ _ _ _, Maps.isMap_empty, fun _ _ => ⟨rfl, rfl⟩⟩
open Classical in
theorem LK.put {w : World} {b n : Nat} {f : Lit → Option Int} (h : LK w b f n) (hn : n ≤ 1000) (m : Mat) (hm : m.ok = true) (c : Int) :
    ∃ w', (Instr.mapUpdate 51 (.map (some b)) (.agg #[.int .i64 m.a, .int .i64 m.b, .int .i64 m.c, .int .i64 m.d]) (.int .i64 c)).run Tryd.prog w = .ok () w' ∧ LK w' b (fun x => if x = kM m then some c else f x) (n + 1) ∧ w.grownBy w' (some b) := by
  obtain ⟨D, hown, hD, hf⟩ := h
  obtain ⟨w', hr, h1, h2⟩ := hown.update mat_keyed Tryd.underlying51 (by unfold maxLen; omega) (keyOf_mat m hm) (val := (.int .i64 c)) (d := .lit (.int .i64 c)) (ps := []) rfl
  refine ⟨w', hr, ⟨_, h1, hD.put _ _, fun x z => ?_⟩, h2⟩
  dsimp only
  by_cases hx : x = kM m
  · subst hx
    rw [if_pos rfl, Maps.atKey_put_same hD (kM_lit m), Maps.has_put_same hD (kM_lit m)]
    exact ⟨rfl, rfl⟩
  · rw [if_neg hx, Maps.atKey_put_other hx, Maps.has_put_other hx]
    exact hf x z
theorem LK.lt {w : World} {b n : Nat} {f : Lit → Option Int} (h : LK w b f n) : b < w.heap.size := by
  obtain ⟨_, hown, _⟩ := h
  exact hown.lt
theorem LK.kept {w w' : World} {b n : Nat} {f : Lit → Option Int} (h : LK w b f n) {row : Option Nat} (hg : w.grownBy w' row) (hne : some b ≠ row) : LK w' b f n := by
  obtain ⟨D, hown, r⟩ := h
  exact ⟨D, hown.kept hg hne, r⟩
theorem LK.below {w w' : World} {b n : Nat} {f : Lit → Option Int} (h : LK w b f n) (hb : Below w.heap.size w w') : LK w' b f n :=
  h.kept (row := none) ⟨hb.os, hb.tape, hb.output, hb.size, fun k hk _ => hb.block k hk⟩ (by simp)
theorem LK.alloc {w : World} {b n : Nat} {f : Lit → Option Int} (h : LK w b f n) (o : Obj) : LK (w.alloc o) b f n := h.below (own_alloc (own_refl w) o)
theorem LK.drew {w : World} {b n : Nat} {f : Lit → Option Int} (h : LK w b f n) : LK w.drew b f n := h
theorem LK.set {w : World} {b n : Nat} {f : Lit → Option Int} (h : LK w b f n) {p : Addr} (hp : b ≠ p.block) (u : Value) : LK (w.setCell p u) b f n := by
  obtain ⟨D, hown, r⟩ := h
  exact ⟨D, hown.setCell hp u, r⟩
theorem zero_int (w : World) : (zeroValue 2).run Tryd.prog w = .ok (.int .i64 0) w := by kernel_rfl
theorem LK.look {w : World} {b n : Nat} {f : Lit → Option Int} (h : LK w b f n) (m : Mat) (hm : m.ok = true) :
    (Instr.lookup 51 (.map (some b)) (.agg #[.int .i64 m.a, .int .i64 m.b, .int .i64 m.c, .int .i64 m.d]) true).run Tryd.prog w = .ok (.tuple #[(.int .i64 ((f (kM m)).getD 0)), .bool (f (kM m)).isSome]) w := by
  obtain ⟨D, hown, hD, hf⟩ := h
  obtain ⟨v, ps, hr, hv⟩ := hown.look_ok mat_keyed Tryd.underlying51 (zero_int w) (zd := .lit (.int .i64 0)) (zp := []) rfl (keyOf_mat m hm)
  obtain ⟨c, rfl, hz⟩ := intR_inv hv
  obtain ⟨h1, h2⟩ := hf (kM m) (.lit (.int .i64 0))
  have h3 : D.atKey (kM m) (.lit (.int .i64 0)) = .lit (.int .i64 c) := (Prod.mk.inj hz).1
  rw [h1] at h3
  have h4 : c = (f (kM m)).getD 0 := by
    cases hfk : f (kM m) with
    | none => rw [hfk] at h3; simp at h3; exact h3.symm
    | some x => rw [hfk] at h3; simp at h3; exact h3.symm
  rw [← h4, ← h2]
  exact hr
open Classical in
/-- The map of the first j powers. -/
noncomputable def fP (m : Mat) : Nat → Lit → Option Int
  | 0, _ => none
  | j + 1, x => if x = kM (Mat.pow m (j + 1)) then some ((j + 1 : Nat) : Int) else fP m j x
theorem fP_some {m q : Mat} (hq : q.ok = true) : ∀ {j : Nat} {c : Int}, (∀ i, i ≤ j → (Mat.pow m i).ok = true) → fP m j (kM q) = some c → ∃ i : Nat, 1 ≤ i ∧ i ≤ j ∧ c = (i : Int) ∧ Mat.pow m i = q
  | 0, c, _, h => by simp [fP] at h
  | j + 1, c, hok, h => by
    rw [fP] at h
    by_cases hx : kM q = kM (Mat.pow m (j + 1))
    · rw [if_pos hx] at h
      injection h with h
      exact ⟨j + 1, by omega, by omega, h.symm, (kM_inj hq (hok _ (by omega)) hx).symm⟩
    · rw [if_neg hx] at h
      obtain ⟨i, h1, h2, h3, h4⟩ := fP_some hq (fun i hi => hok i (by omega)) h
      exact ⟨i, h1, by omega, h3, h4⟩
theorem fP_none {m q : Mat} : ∀ {j : Nat}, fP m j (kM q) = none → ∀ i, 1 ≤ i → i ≤ j → Mat.pow m i ≠ q
  | 0, _, i, h1, h2 => by omega
  | j + 1, h, i, h1, h2 => by
    rw [fP] at h
    by_cases hx : kM q = kM (Mat.pow m (j + 1))
    · rw [if_pos hx] at h; cases h
    · rw [if_neg hx] at h
      rcases (show i ≤ j ∨ i = j + 1 by omega) with h3 | rfl
      · exact fP_none h i h1 h3
      · intro e
        exact hx (by rw [e])
end Go.Proofs.YtmlbbhhjjepmkaaDoor
