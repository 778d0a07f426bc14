/- Base of this seat's proofs: words for worlds and for integers, imported by all other texts of the claim. No condition. -/
import Derived.Test.YtfgbmddmmgipnaaDoorRows
import Derived.WalkKit
import Derived.ProofKit
import Derived.OpenShut
import Derived.Outline
import Derived.Lib.Hide
import Derived.Lib.SmallJoins
import Derived.WalkLawsBesides
import Derived.Below
import Derived.ChangeSame
import Derived.JoinedCond
import Derived.Deep.Draws
import Derived.OpenVars
import Derived.Handy
import Derived.Deep.RegionHeld3
import Derived.Deep.DeepCutAuto
import Derived.Deep.QuietTactic
import Derived.BigQuiet
namespace Go.Proofs.YtfgbmddmmgipnaaDoor
open Go.ChangeShapes Go.WideShapes Go.ChangeAt Go.RowKit

/-- An int64's bounds. -/
def I64 (x : Int) : Prop := -9223372036854775808 ≤ x ∧ x ≤ 9223372036854775807

theorem i64_of_wf {x : Int} (h : (Lit.int .i64 x).wf = true) : I64 x := by
  simpa [I64, Lit.wf, IntKind.min, IntKind.max, IntKind.signed, IntKind.bits] using h

theorem ret_bool {a b : Bool} (h : a = b) : Ending.returned (.bool a) = Ending.returned (.bool b) := by rw [h]
theorem ret_int {k : IntKind} {a b : Int} (h : a = b) : Ending.returned (.int k a) = Ending.returned (.int k b) := by rw [h]

theorem ret_int2 {k k' : IntKind} {a b c : Int} (h : a = b) : Ending.returned (.tuple #[.int k a, .int k' c]) = Ending.returned (.tuple #[.int k b, .int k' c]) := by rw [h]

theorem below_drewN' {B : Nat} {a w : World} (h : Below B a w) (n : Nat) : Below B a (w.drewN n) := ⟨h.os, h.tape, h.output, h.size, h.block⟩

/-- Worlds in which nothing old has turned, step by step. -/
theorem own_refl (w : World) : Below w.heap.size w w := Below.refl _ _
theorem own_alloc {a w : World} (h : Below a.heap.size a w) (o : Obj) : Below a.heap.size a (w.alloc o) := h.alloc h.size o
theorem own_drew {a w : World} (h : Below a.heap.size a w) : Below a.heap.size a w.drew := h.drew
theorem own_drewN {a w : World} (h : Below a.heap.size a w) (n : Nat) : Below a.heap.size a (w.drewN n) := below_drewN' h n
theorem own_setCell {a w : World} (h : Below a.heap.size a w) {p : Addr} (hp : a.heap.size ≤ p.block) (u : Value) : Below a.heap.size a (w.setCell p u) := h.setCell hp u
theorem own_trans {a b c : World} (h : Below a.heap.size a b) (k : Below b.heap.size b c) : Below a.heap.size a c := h.trans (k.mono h.size)

theorem own_from {w wr : World} {o : Obj} (hb : Below (w.heap.size + 1) (w.alloc o) wr) : Below w.heap.size w wr := (own_alloc (own_refl w) o).trans (hb.mono (Nat.le_succ _))

/-- What a world of the call's own leaves of the cells and marks that were there. -/
theorem old_cells {W w1 : World} (hb : Below W.heap.size W w1) : (∀ b o, b < W.heap.size → w1.cell? ⟨b, o, none⟩ = W.cell? ⟨b, o, none⟩) ∧ (∀ b o, b < W.heap.size → w1.frozen? ⟨b, o, none⟩ = W.frozen? ⟨b, o, none⟩) :=
  ⟨fun b o h => hb.cell (p := ⟨b, o, none⟩) h, fun b o h => hb.frozen (p := ⟨b, o, none⟩) h⟩

/-- Block g holds the values xs from its first cell on, none of them frozen. -/
def Box (w : World) (g : Nat) (xs : List Value) : Prop := g < w.heap.size ∧ ∀ (i : Nat) (v : Value), xs[i]? = some v → w.cell? ⟨g, i, none⟩ = some v ∧ w.frozen? ⟨g, i, none⟩ = false

theorem Box.below {w w' : World} {g : Nat} {xs : List Value} (h : Box w g xs) (hb : Below w.heap.size w w') : Box w' g xs :=
  ⟨Nat.lt_of_lt_of_le h.1 hb.size, fun i v hv => ⟨(hb.cell (p := ⟨g, i, none⟩) h.1).trans (h.2 i v hv).1, (hb.frozen (p := ⟨g, i, none⟩) h.1).trans (h.2 i v hv).2⟩⟩
theorem Box.low {w w' : World} {g L : Nat} {xs : List Value} (h : Box w g xs) (hb : Below L w w') (hg : g < L) : Box w' g xs :=
  ⟨Nat.lt_of_lt_of_le h.1 hb.size, fun i v hv => ⟨(hb.cell (p := ⟨g, i, none⟩) hg).trans (h.2 i v hv).1, (hb.frozen (p := ⟨g, i, none⟩) hg).trans (h.2 i v hv).2⟩⟩
theorem Box.alloc {w : World} {g : Nat} {xs : List Value} (h : Box w g xs) (o : Obj) : Box (w.alloc o) g xs := h.below (own_alloc (own_refl w) o)
theorem Box.drew {w : World} {g : Nat} {xs : List Value} (h : Box w g xs) : Box w.drew g xs := h
theorem Box.drewN {w : World} {g : Nat} {xs : List Value} (h : Box w g xs) (n : Nat) : Box (w.drewN n) g xs := h
theorem Box.new (w : World) (xs : List Value) (t : TypeId) : Box (w.alloc (.cells xs.toArray t)) w.heap.size xs := by
  refine ⟨by simp, fun i v hv => ⟨?_, ?_⟩⟩
  · rw [World.cell?_alloc_at _ _ _ _ rfl]; simpa using hv
  · exact World.frozen?_alloc_at _ _ _ _ rfl
theorem Box.newAt {w : World} {g : Nat} (h : w.heap.size = g) (xs : List Value) (t : TypeId) : Box (w.alloc (.cells xs.toArray t)) g xs := h ▸ Box.new w xs t
theorem Box.four {w : World} {g : Nat} {x0 x1 x2 x3 : Value} (h : Box w g [x0, x1, x2, x3]) :
    g < w.heap.size ∧ w.cell? ⟨g, 0, none⟩ = some x0 ∧ w.cell? ⟨g, 1, none⟩ = some x1 ∧ w.cell? ⟨g, 2, none⟩ = some x2 ∧ w.cell? ⟨g, 3, none⟩ = some x3 ∧
      w.frozen? ⟨g, 0, none⟩ = false ∧ w.frozen? ⟨g, 1, none⟩ = false ∧ w.frozen? ⟨g, 2, none⟩ = false ∧ w.frozen? ⟨g, 3, none⟩ = false :=
  ⟨h.1, (h.2 0 _ rfl).1, (h.2 1 _ rfl).1, (h.2 2 _ rfl).1, (h.2 3 _ rfl).1, (h.2 0 _ rfl).2, (h.2 1 _ rfl).2, (h.2 2 _ rfl).2, (h.2 3 _ rfl).2⟩
theorem Box.two {w : World} {g : Nat} {x0 x1 : Value} (h : Box w g [x0, x1]) :
    g < w.heap.size ∧ w.cell? ⟨g, 0, none⟩ = some x0 ∧ w.cell? ⟨g, 1, none⟩ = some x1 ∧ w.frozen? ⟨g, 0, none⟩ = false ∧ w.frozen? ⟨g, 1, none⟩ = false :=
  ⟨h.1, (h.2 0 _ rfl).1, (h.2 1 _ rfl).1, (h.2 0 _ rfl).2, (h.2 1 _ rfl).2⟩
theorem Box.one {w : World} {g : Nat} {x0 : Value} (h : Box w g [x0]) : g < w.heap.size ∧ w.cell? ⟨g, 0, none⟩ = some x0 ∧ w.frozen? ⟨g, 0, none⟩ = false :=
  ⟨h.1, (h.2 0 _ rfl).1, (h.2 0 _ rfl).2⟩
theorem Box.set {w : World} {g : Nat} {xs : List Value} (h : Box w g xs) (i : Nat) (hi : i < xs.length) (y : Value) : Box (w.setCell ⟨g, i, none⟩ y) g (xs.set i y) := by
  refine ⟨by simpa [World.setCell] using h.1, fun j v hv => ⟨?_, (World.frozen?_setCell _ _ _ _).trans ?_⟩⟩
  · by_cases e : j = i
    · subst e
      rw [World.cell?_setCell_same _ _ _ (h.2 j _ (List.getElem?_eq_getElem hi)).1]
      simpa [hi] using hv
    · rw [World.cell?_setCell_other _ _ _ _ (by intro he; injection he with h1 h2; exact e h2.symm)]
      rw [List.getElem?_set_ne (Ne.symm e)] at hv
      exact (h.2 j v hv).1
  · have hj : j < xs.length := by
      have := (List.getElem?_eq_some_iff.1 hv).1
      simpa using this
    exact (h.2 j _ (List.getElem?_eq_getElem hj)).2
theorem Box.put4 {w : World} {g : Nat} {x0 x1 x2 x3 : Value} (h : Box w g [x0, x1, x2, x3]) (y0 y1 y2 y3 : Value) :
    Box ((((w.setCell ⟨g, 0, none⟩ y0).setCell ⟨g, 1, none⟩ y1).setCell ⟨g, 2, none⟩ y2).setCell ⟨g, 3, none⟩ y3) g [y0, y1, y2, y3] :=
  (((h.set 0 (by simp) y0).set 1 (by simp) y1).set 2 (by simp) y2).set 3 (by simp) y3
theorem Box.put2 {w : World} {g : Nat} {x0 x1 : Value} (h : Box w g [x0, x1]) (y0 y1 : Value) : Box ((w.setCell ⟨g, 0, none⟩ y0).setCell ⟨g, 1, none⟩ y1) g [y0, y1] :=
  (h.set 0 (by simp) y0).set 1 (by simp) y1
theorem Box.far {w : World} {g : Nat} {xs : List Value} (h : Box w g xs) {p : Addr} (hp : g ≠ p.block) (u : Value) : Box (w.setCell p u) g xs := by
  have hk := Below.heap_setCell w p u g hp
  refine ⟨by simpa [World.setCell] using h.1, fun i v hv => ⟨?_, ?_⟩⟩
  · exact (World.cell?_of_block (w := w) (a := ⟨g, i, none⟩) hk).trans (h.2 i v hv).1
  · exact (World.frozen?_of_block (w := w) (a := ⟨g, i, none⟩) hk).trans (h.2 i v hv).2

/-- Block g reads as xs (whether it may be written is not said). -/
def Rd (w : World) (g : Nat) (xs : List Value) : Prop := g < w.heap.size ∧ ∀ (i : Nat) (v : Value), xs[i]? = some v → w.cell? ⟨g, i, none⟩ = some v
theorem Rd.below {w w' : World} {g : Nat} {xs : List Value} (h : Rd w g xs) (hb : Below w.heap.size w w') : Rd w' g xs :=
  ⟨Nat.lt_of_lt_of_le h.1 hb.size, fun i v hv => (hb.cell (p := ⟨g, i, none⟩) h.1).trans (h.2 i v hv)⟩
theorem Rd.alloc {w : World} {g : Nat} {xs : List Value} (h : Rd w g xs) (o : Obj) : Rd (w.alloc o) g xs := h.below (own_alloc (own_refl w) o)
theorem Rd.drew {w : World} {g : Nat} {xs : List Value} (h : Rd w g xs) : Rd w.drew g xs := h
theorem Rd.drewN {w : World} {g : Nat} {xs : List Value} (h : Rd w g xs) (n : Nat) : Rd (w.drewN n) g xs := h
theorem Rd.four {w : World} {g : Nat} {x0 x1 x2 x3 : Value} (h : Rd w g [x0, x1, x2, x3]) :
    g < w.heap.size ∧ w.cell? ⟨g, 0, none⟩ = some x0 ∧ w.cell? ⟨g, 1, none⟩ = some x1 ∧ w.cell? ⟨g, 2, none⟩ = some x2 ∧ w.cell? ⟨g, 3, none⟩ = some x3 :=
  ⟨h.1, h.2 0 _ rfl, h.2 1 _ rfl, h.2 2 _ rfl, h.2 3 _ rfl⟩

section
variable {H : Type} {enc : TypeId × Value → H} {P : Program}
/-- The row's end from 'Below' alone. -/
theorem post_below {f : Func} {s : ChangeSpec} {apart fresh handsOn again : Bool} {W W' : World} {args : Array Value} {v : Value} {ds gs : List (DataW H)} {before pa pv : List MemPlace}
    (hW : DataW.Whole enc P f.params.toList s.vars apart W args.toList ds gs before)
    (hres : ∀ (b : Nat) (sp : Nat → Bool) (hd : Bool), DataW.TrodAll enc P W' b sp hd f.resultTypes.toList (v.resultList f.resultTypes.size) (s.fn H (ds ++ gs)).results [])
    (hargs : ∀ sp : Nat → Bool, (∀ p ∈ before, sp p.block = true) → DataW.TrodAll enc P W' 0 sp true f.params.toList args.toList (s.fn H (ds ++ gs)).args pa)
    (hvars : ∀ sp : Nat → Bool, (∀ p ∈ before, sp p.block = true) → DataW.TrodVars enc P W' sp s.vars (s.fn H (ds ++ gs)).vars pv)
    (hps : before = pa ++ pv) (hb : Below W.heap.size W W')
    (hok : ∀ (j : Nat) (t : TypeId) (r : Value), f.resultTypes[j]? = some t → (v.resultList f.resultTypes.size)[j]? = some r → Value.okWide P W' .any 0 t r) :
    s.post enc P f apart fresh handsOn again W args v W' := by
  have below : ∀ p ∈ before, p.block < W.heap.size := fun p hp => hW.lt p hp
  have spare : ∀ p ∈ before, (fun b => decide (b < W.heap.size)) p.block = true := fun p hp => by simpa using below p hp
  refine ⟨ds, gs, before, [], pa, pv, hW, hres _ _ _, hargs _ spare, hvars _ spare, World.keptBut_mono (fun p hp => ⟨hp, ?_⟩) (hb.frame (· ∈ before)), fun _ => ?_⟩
  · exact Or.inr (List.mem_append.1 (hps ▸ hp))
  · obtain ⟨_, _, _, _, _, hz, hn⟩ := hW
    refine ⟨hok, _, _, ([] ++ pa) ++ pv, ⟨[] ++ pa, pv, trodAll_append (hargs _ (fun _ _ => rfl)) (hres _ _ _), hvars _ (fun _ _ => rfl), rfl, ?_, ?_⟩, ?_⟩
    · intro b off hp
      have hin : MemPlace.cell b off ∈ before := by rw [hps]; simpa using hp
      rw [hb.frozen (below _ hin)]
      exact hz b off hin
    · intro ha
      have := hn ha
      rw [hps] at this
      simpa using this
    · intro p hp _
      rw [hps]
      simpa using hp
/-- The same where package-level variables are read: they read as before. -/
theorem post_vars {f : Func} {s : ChangeSpec} {apart fresh handsOn : Bool} {W W' : World} {args : Array Value} {v : Value} {ds gs : List (DataW H)} {before pa pv : List MemPlace}
    (hW : DataW.Whole enc P f.params.toList s.vars apart W args.toList ds gs before)
    (hres : ∀ (b : Nat) (sp : Nat → Bool) (hd : Bool), DataW.TrodAll enc P W' b sp hd f.resultTypes.toList (v.resultList f.resultTypes.size) (s.fn H (ds ++ gs)).results [])
    (hargs : ∀ sp : Nat → Bool, (∀ p ∈ before, sp p.block = true) → DataW.TrodAll enc P W' 0 sp true f.params.toList args.toList (s.fn H (ds ++ gs)).args pa)
    (hvars : DataW.TrodVars enc P W' (fun b => decide (b < W.heap.size)) s.vars (s.fn H (ds ++ gs)).vars pv)
    (hps : before = pa ++ pv) (hb : Below W.heap.size W W') : s.post enc P f apart fresh handsOn false W args v W' := by
  have spare : ∀ p ∈ before, (fun b => decide (b < W.heap.size)) p.block = true := fun p hp => by simpa using hW.lt p hp
  refine ⟨ds, gs, before, [], pa, pv, hW, hres _ _ _, hargs _ spare, hvars, World.keptBut_mono (fun p hp => ⟨hp, ?_⟩) (hb.frame (· ∈ before)), fun h => by cases h⟩
  exact Or.inr (List.mem_append.1 (hps ▸ hp))
end
end Go.Proofs.YtfgbmddmmgipnaaDoor
