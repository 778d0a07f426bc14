/- A range over a function whose iterator keeps two boxes of its own: the law, at the wide fence. -/
import Derived.Test.YtdcomnnpnhinfaaDoorBase
import Derived.RangeFuncNested
import Derived.RangeFuncBound
import Derived.RangeFuncCalls
import Derived.RangeFuncLeaves
import Derived.Shelf.RegionOpen
import Derived.WalkKit
import Derived.OwnWalkIn
import Derived.TacticsInMore
import Derived.LoopNIn
import Derived.LoopIn
namespace Go.Proofs.YtdcomnnpnhinfaaDoor
open Go.ChangeShapes Go.WideShapes Go.ChangeAt Go.RowKit Go.Shelf

/-- The blocks that the iterator reads stand, and those of the loop's books and of the iterator's own boxes. -/
def KeepC (Kb : Nat → Prop) (B : Nat) (W W' : World) : Prop := W.heap.size ≤ W'.heap.size ∧ ∀ b, (Kb b ∨ (B ≤ b ∧ b < B + 4)) → b < W.heap.size → W'.heap[b]? = W.heap[b]?
theorem KeepC.refl {Kb : Nat → Prop} {B : Nat} (W : World) : KeepC Kb B W W := ⟨Nat.le_refl _, fun _ _ _ => rfl⟩
theorem KeepC.trans {Kb : Nat → Prop} {B : Nat} {W1 W2 W3 : World} (h : KeepC Kb B W1 W2) (h' : KeepC Kb B W2 W3) : KeepC Kb B W1 W3 :=
  ⟨Nat.le_trans h.1 h'.1, fun b hb hl => (h'.2 b hb (Nat.lt_of_lt_of_le hl h.1)).trans (h.2 b hb hl)⟩
theorem KeepC.grown {Kb : Nat → Prop} {B : Nat} {W W' : World} {row : Option Nat} (h : W.grownBy W' row) (hr : ∀ r, row = some r → ¬ (Kb r ∨ (B ≤ r ∧ r < B + 4))) : KeepC Kb B W W' :=
  ⟨h.size, fun b hb hl => h.block b hl (fun e => hr b e.symm hb)⟩
/-- What a round of the body may leave behind. -/
def postC {α : Type} (Kb : Nat → Prop) (B : Nat) (I : List α → World → Prop) (Ix : Code → List α → World → Prop) (xs : List α) (W : World) : Exit → Act → World → Prop
  | .normal, _, W' => KeepC Kb B W W' ∧ I xs W'
  | .ret, _, W' => KeepC Kb B W W' ∧ Ix .ret xs W'
  | .exit id, _, W' => KeepC Kb B W W' ∧ Ix (.exit id) xs W'
  | .goto t, _, W' => KeepC Kb B W W' ∧ Ix (.goto t) xs W'
  | _, _, _ => False
/-- What is said abides whatever happens to the blocks from B on and below U. -/
def OwnC {β : Type} (B U : Nat) (J : β → World → Prop) : Prop :=
  ∀ (s : β) (W W' : World) (row : Option Nat), J s W → W.grownBy W' row → (∀ r, row = some r → B ≤ r ∧ r < U) → J s W'
/-- The contract of an iterator that has two boxes of its own, laid first, and reads the blocks Kb. -/
def SeqC {α : Type} (P : Program) (g : Nat) (lb : Array Value) (encs : α → Array Value) (Kb : Nat → Prop) (Nx : List α → α → Prop) (S Sp : List α → Prop) (w : World) : Prop :=
  ∀ (l : Nat) (J Jx : List α → World → Prop) (W : World), Below w.heap.size w W → OwnC W.heap.size (W.heap.size + 2) J → OwnC W.heap.size (W.heap.size + 2) Jx →
    (∀ pre x W1, J pre W1 → W.heap.size + 2 ≤ W1.heap.size → Nx pre x → YieldAt Fence.wide 2 P l (encs x) W1 fun e W' =>
      (e = .returned (.bool true) ∧ J (pre ++ [x]) W' ∧ W1.heap.size ≤ W'.heap.size ∧ ∀ b, (Kb b ∨ b = W.heap.size ∨ b = W.heap.size + 1) → b < W1.heap.size → W'.heap[b]? = W1.heap[b]?) ∨
      (e = .returned (.bool false) ∧ Jx (pre ++ [x]) W')) →
    J [] W →
    CallsIn Fence.wide 3 P g (#[.func (.yield l) #[] #[]] ++ lb) W fun e W' => (∃ v, e = .returned v) ∧ ((∃ xs, S xs ∧ J xs W') ∨ (∃ pre, Sp pre ∧ Jx pre W'))

section
variable {P : Program}
theorem rangeC {α : Type} {g : Operand} {ps : Array Tmp} {assign body : Code} {Q : Exit → Act → World → Prop} {a : Act} {w : World}
    {gf : Nat} {lb : Array Value} (hg : a.eval g = .func (.func gf) #[] lb) (eg : ∀ args w, (callFunc gf args).run P w = .ok (.enter gf args) w)
    {encs : α → Array Value} {Kb : Nat → Prop} {Nx : List α → α → Prop} {S Sp : List α → Prop} {w0 : World} (hseq : SeqC P gf lb encs Kb Nx S Sp w0)
    (hb0 : Below w0.heap.size w0 w) (hKb : ∀ b, Kb b → b < w.heap.size) (hps : ∀ x, (encs x).size = ps.size)
    (I : List α → World → Prop) (Ix : Code → List α → World → Prop) (hI : OwnC w.heap.size (w.heap.size + 4) I) (hIx : ∀ c, OwnC w.heap.size (w.heap.size + 4) (Ix c)) (h0 : I [] w)
    (Ax : α → Act → World → Prop) (hAx : ∀ x, OwnC w.heap.size (w.heap.size + 4) (Ax x))
    (hassign : ∀ (l : Nat) (pre : List α) (x : α) (W : World) (K : Act → World → Prop), I pre W → w.heap.size + 4 ≤ W.heap.size → (∀ a' Wa, KeepC Kb w.heap.size W Wa → I pre Wa → Ax x a' Wa → K a' Wa) →
      assign.wpIn (Fence.wide.inRound l) 2 P (Exit.then K (fun _ _ _ => False)) { tmps := (ps.zip (encs x)).foldl (fun t (p, v) => t.setIfInBounds p v) a.tmps, defers := [] } W)
    (hbody : ∀ (l : Nat) (pre : List α) (x : α) (a' : Act) (W : World), I pre W → Ax x a' W → w.heap.size + 4 ≤ W.heap.size → Nx pre x → body.wpIn (Fence.wide.inRound l) 2 P (postC Kb w.heap.size I Ix (pre ++ [x]) W) a' W)
    (hdone : ∀ (xs : List α) (W : World), S xs → I xs W → W.heap[w.heap.size]? = some (.deferred (some [])) → Q .normal { a with defers := { target := .collected w.heap.size, args := #[] } :: a.defers } W)
    (hstop : ∀ (c : Code) (pre : List α) (W : World), Sp pre → Ix c pre W → W.heap[w.heap.size]? = some (.deferred (some [])) → c.wpIn Fence.wide 3 P Q { a with defers := { target := .collected w.heap.size, args := #[] } :: a.defers } W) :
    (Code.rangeFunc g ps assign body).wpIn Fence.wide 3 P Q a w := by
  refine wpIn_rangeFunc fun fn hfn => ?_
  obtain ⟨B, hB⟩ : ∃ B, w.heap.size = B := ⟨_, rfl⟩
  obtain ⟨bk, hbk⟩ : ∃ bk : LoopState → Option Code → Loop, bk = fun st pe => { state := st, pending := pe, fn, tmps := a.tmps, params := ps, assign, body, defers := B } := ⟨_, rfl⟩
  obtain ⟨W1, hW1⟩ : ∃ W1, (w.alloc (.deferred (some []))).alloc (.loop (bk .ready none)) = W1 := ⟨_, rfl⟩
  have hs1 : W1.heap.size = B + 2 := by rw [← hW1]; simp [hB]
  have hd1 : W1.heap[B]? = some (.deferred (some [])) := by
    rw [← hW1, ← hB]; exact (Below.heap_alloc _ _ _ (by simp)).trans (World.alloc_heap_new w _)
  have hl1 : W1.heap[B + 1]? = some (.loop (bk .ready none)) := by
    rw [← hW1, ← hB]; have := World.alloc_heap_new (w.alloc (.deferred (some []))) (.loop (bk .ready none)); rwa [World.size_alloc] at this
  have hgr : w.grownBy W1 none := by
    rw [← hW1]
    exact ⟨rfl, rfl, rfl, by simp; omega, fun k hk _ => (Below.heap_alloc _ _ _ (by simp; omega)).trans (Below.heap_alloc _ _ _ hk)⟩
  rw [hB] at hI hAx hassign hbody hdone hstop hKb
  have hIx' : ∀ c, OwnC B (B + 4) (Ix c) := fun c => hB ▸ hIx c
  have hI1 : I [] W1 := hI _ _ _ _ h0 hgr (fun r e => by cases e)
  have hb1 : Below w0.heap.size w0 W1 := by
    rw [← hW1]; exact hb0.trans ((((Below.refl _ w).alloc (Nat.le_refl _) _).alloc (by simp) _).mono hb0.size)
  refine ⟨B + 1, [{ target := .collected B, args := #[] }], W1, { target := .fn (.func gf) lb, args := #[.func (.yield (B + 1)) #[] #[]] }, W1, gf, #[.func (.yield (B + 1)) #[] #[]] ++ lb, W1, ?_, ?_, ?_, ?_, ?_, ?_⟩
  · rw [← hW1, hbk, ← hB]; exact run_enterLoop_outer _ _ _ _ _
  · simp only [resolve, hg]
    simp [go_sem]
  · intro f' _; trivial
  · simp [invoke, go_sem, eg]
  · intro h; cases h
  refine callsIn_wide.2 ?_
  refine Calls.mono (callsIn_wide.1 (hseq (B + 1) (fun pre W => I pre W ∧ W.heap[B + 1]? = some (.loop (bk .ready none)) ∧ W.heap[B]? = some (.deferred (some [])))
    (fun pre W => ∃ c, Ix c pre W ∧ W.heap[B + 1]? = some (.loop (bk .done (some c))) ∧ W.heap[B]? = some (.deferred (some []))) W1 hb1 ?_ ?_ ?_ ⟨hI1, hl1, hd1⟩)) ?_
  · rw [hs1]
    rintro s X Y row ⟨hi, hl, hd⟩ hgw hr
    refine ⟨hI _ _ _ _ hi hgw (fun r e => by have := hr r e; omega), ?_, ?_⟩
    · exact (hgw.block _ (Array.getElem?_eq_some_iff.1 hl).1 (fun e => by have := hr _ e.symm; omega)).trans hl
    · exact (hgw.block _ (Array.getElem?_eq_some_iff.1 hd).1 (fun e => by have := hr _ e.symm; omega)).trans hd
  · rw [hs1]
    rintro s X Y row ⟨c, hi, hl, hd⟩ hgw hr
    refine ⟨c, hIx' c _ _ _ _ hi hgw (fun r e => by have := hr r e; omega), ?_, ?_⟩
    · exact (hgw.block _ (Array.getElem?_eq_some_iff.1 hl).1 (fun e => by have := hr _ e.symm; omega)).trans hl
    · exact (hgw.block _ (Array.getElem?_eq_some_iff.1 hd).1 (fun e => by have := hr _ e.symm; omega)).trans hd
  · rintro pre x W ⟨hi, hl, hd⟩ hsz hnx
    rw [hs1] at hsz
    have hy := run_yield (P := P) (args := encs x) hl (by rw [hbk]; exact hps x)
    rw [hbk] at hy
    refine ⟨fn, _, assign, body, hy, roundIn_of_wpIn hfn (hassign _ pre x W _ hi (by omega) fun a' Wa hka hia hax => ?_)⟩
    have hla := (hka.2 (B + 1) (.inr (by omega)) (by omega)).trans hl
    have hda := (hka.2 B (.inr (by omega)) (by omega)).trans hd
    have hlt := (Array.getElem?_eq_some_iff.1 hla).1
    obtain ⟨Wb, hWb⟩ : ∃ Wb, Wa.putObj (B + 1) (.loop { bk .ready none with state := .busy }) = Wb := ⟨_, rfl⟩
    have hgb : Wa.grownBy Wb (some (B + 1)) := by rw [← hWb]; exact grownBy_putObj' _ _ _
    have hlb : Wb.heap[B + 1]? = some (.loop { bk .ready none with state := .busy }) := by rw [← hWb]; exact World.putObj_heap_same hlt
    have hdb : Wb.heap[B]? = some (.deferred (some [])) := by rw [← hWb]; exact (World.putObj_heap_other (by omega)).trans hda
    have hrow : ∀ r, some (B + 1) = some r → B ≤ r ∧ r < B + 4 := fun r e => by cases e; omega
    refine ⟨Wb, by rw [← hWb]; exact run_beginRound hla (by rw [hbk]), wpIn_mono (hbody _ pre x a' Wb (hI _ _ _ _ hia hgb hrow) (hAx x _ _ _ _ hax hgb hrow) (by have := hka.1; have := hgb.size; omega) hnx) ?_⟩
    have fin : ∀ (jump : Option Code) (W3 : World), KeepC Kb B Wb W3 → (∃ W4, (Instr.endRound (B + 1) jump).run P W3 = .ok (.bool jump.isNone) W4 ∧ W3.grownBy W4 (some (B + 1)) ∧
        W4.heap[B + 1]? = some (.loop (bk (if jump.isNone then .ready else .done) jump)) ∧ W4.heap[B]? = some (.deferred (some []))) := fun jump W3 hk3 => by
      have hl3 := (hk3.2 (B + 1) (.inr (by omega)) (Array.getElem?_eq_some_iff.1 hlb).1).trans hlb
      have hd3 := (hk3.2 B (.inr (by omega)) (Array.getElem?_eq_some_iff.1 hdb).1).trans hdb
      refine ⟨_, run_endRound (P := P) jump hl3, grownBy_putObj' _ _ _, ?_, (World.putObj_heap_other (by omega)).trans hd3⟩
      rw [World.putObj_heap_same (Array.getElem?_eq_some_iff.1 hl3).1, hbk]
    have keep : ∀ {W3 W4 : World}, KeepC Kb B Wb W3 → W3.grownBy W4 (some (B + 1)) → W.heap.size ≤ W4.heap.size ∧ ∀ b, (Kb b ∨ b = W1.heap.size ∨ b = W1.heap.size + 1) → b < W.heap.size → W4.heap[b]? = W.heap[b]? := fun {W3 W4} hk3 hg4 => by
      refine ⟨Nat.le_trans hka.1 (Nat.le_trans hgb.size (Nat.le_trans hk3.1 hg4.size)), fun b hb hlb => ?_⟩
      have hb' : Kb b ∨ (B ≤ b ∧ b < B + 4) := by rcases hb with h | h | h <;> first | exact .inl h | exact .inr (by omega)
      have hne : b ≠ B + 1 := by rcases hb with h | h | h <;> first | omega | (have := hKb b h; omega)
      have s1 := Nat.lt_of_lt_of_le hlb hka.1
      have s2 := Nat.lt_of_lt_of_le s1 hgb.size
      have s3 := Nat.lt_of_lt_of_le s2 hk3.1
      exact (hg4.block b s3 (fun e => hne (by injection e))).trans ((hk3.2 b hb' s2).trans ((hgb.block b s1 (fun e => hne (by injection e))).trans (hka.2 b hb' hlb)))
    rintro e a3 W3 hp
    cases e with
    | normal =>
      obtain ⟨hk3, hi3⟩ := hp
      obtain ⟨W4, hr4, hg4, hl4, hd4⟩ := fin none W3 hk3
      exact ⟨_, _, hr4, .inl ⟨rfl, ⟨hI _ _ _ _ hi3 hg4 hrow, hl4, hd4⟩, keep hk3 hg4⟩⟩
    | ret =>
      obtain ⟨hk3, hi3⟩ := hp
      obtain ⟨W4, hr4, hg4, hl4, hd4⟩ := fin (some .ret) W3 hk3
      exact ⟨_, _, hr4, .inr ⟨rfl, .ret, hIx' _ _ _ _ _ hi3 hg4 hrow, hl4, hd4⟩⟩
    | exit id =>
      obtain ⟨hk3, hi3⟩ := hp
      obtain ⟨W4, hr4, hg4, hl4, hd4⟩ := fin (some (.exit id)) W3 hk3
      exact ⟨_, _, hr4, .inr ⟨rfl, .exit id, hIx' _ _ _ _ _ hi3 hg4 hrow, hl4, hd4⟩⟩
    | goto t =>
      obtain ⟨hk3, hi3⟩ := hp
      obtain ⟨W4, hr4, hg4, hl4, hd4⟩ := fin (some (.goto t)) W3 hk3
      exact ⟨_, _, hr4, .inr ⟨rfl, .goto t, hIx' _ _ _ _ _ hi3 hg4 hrow, hl4, hd4⟩⟩
    | panic ch => exact hp.elim
    | outgrown => exact hp.elim
  · rintro e W2 ⟨⟨v, rfl⟩, (⟨xs, hS, hi, hl, hd⟩ | ⟨pre, hSp, c, hi, hl, hd⟩)⟩
    · have hrow : ∀ r, some (B + 1) = some r → B ≤ r ∧ r < B + 4 := fun r e => by cases e; omega
      refine ⟨none, _, by have := run_endLoop (P := P) hl (by rw [hbk]; simp); rw [hbk] at this; exact this, hdone xs _ hS (hI _ _ _ _ hi (grownBy_putObj' _ _ _) hrow) ((World.putObj_heap_other (by omega)).trans hd)⟩
    · have hrow : ∀ r, some (B + 1) = some r → B ≤ r ∧ r < B + 4 := fun r e => by cases e; omega
      refine ⟨some c, _, by have := run_endLoop (P := P) hl (by rw [hbk]; simp); rw [hbk] at this; exact this, hstop c pre _ hSp (hIx' c _ _ _ _ hi (grownBy_putObj' _ _ _) hrow) ((World.putObj_heap_other (by omega)).trans hd)⟩
end
end Go.Proofs.YtdcomnnpnhinfaaDoor
