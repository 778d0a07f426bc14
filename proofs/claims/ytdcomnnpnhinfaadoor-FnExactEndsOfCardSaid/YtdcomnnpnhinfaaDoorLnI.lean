/- A range over a function whose iterator has no box of its own that it reads again: the law, at the wide fence. -/
import Derived.Test.YtdcomnnpnhinfaaDoorRfL
import Derived.Test.YtdcomnnpnhinfaaDoorLnM
import Derived.Test.YtdcomnnpnhinfaaDoorNp
import Derived.Laws.StructEq
import Derived.Sort.CutIn
import Derived.Sort.QuietIn
import Derived.Stop.RegionWithIn
namespace Go.Proofs.YtdcomnnpnhinfaaDoor
open Go.ChangeShapes Go.WideShapes Go.ChangeAt Go.RowKit Go.Shelf

/-- The blocks that the iterator reads stand, and those of the loop's books. -/
def KeepZ (Kb : Nat → Prop) (B : Nat) (W W' : World) : Prop := W.heap.size ≤ W'.heap.size ∧ ∀ b, (Kb b ∨ (B ≤ b ∧ b < B + 2)) → b < W.heap.size → W'.heap[b]? = W.heap[b]?
theorem KeepZ.refl {Kb : Nat → Prop} {B : Nat} (W : World) : KeepZ Kb B W W := ⟨Nat.le_refl _, fun _ _ _ => rfl⟩
theorem KeepZ.trans {Kb : Nat → Prop} {B : Nat} {W1 W2 W3 : World} (h : KeepZ Kb B W1 W2) (h' : KeepZ Kb B W2 W3) : KeepZ Kb B W1 W3 :=
  ⟨Nat.le_trans h.1 h'.1, fun b hb hl => (h'.2 b hb (Nat.lt_of_lt_of_le hl h.1)).trans (h.2 b hb hl)⟩
theorem KeepZ.grown {Kb : Nat → Prop} {B : Nat} {W W' : World} {row : Option Nat} (h : W.grownBy W' row) (hr : ∀ r, row = some r → ¬ (Kb r ∨ (B ≤ r ∧ r < B + 2))) : KeepZ Kb B W W' :=
  ⟨h.size, fun b hb hl => h.block b hl (fun e => hr b e.symm hb)⟩
/-- What a round of the body may leave behind. -/
def postZ {α : Type} (Kb : Nat → Prop) (B : Nat) (I : List α → World → Prop) (Ix : Code → List α → World → Prop) (xs : List α) (W : World) : Exit → Act → World → Prop
  | .normal, _, W' => KeepZ Kb B W W' ∧ I xs W'
  | .ret, _, W' => KeepZ Kb B W W' ∧ Ix .ret xs W'
  | .exit id, _, W' => KeepZ Kb B W W' ∧ Ix (.exit id) xs W'
  | .goto t, _, W' => KeepZ Kb B W W' ∧ Ix (.goto t) xs W'
  | _, _, _ => False
/-- The contract of an iterator that reads the blocks Kb. -/
def SeqZ {α : Type} (P : Program) (g : Nat) (lb : Array Value) (encs : α → Array Value) (Kb : Nat → Prop) (Nx : List α → α → Prop) (S Sp : List α → Prop) (w : World) : Prop :=
  ∀ (l : Nat) (J Jx : List α → World → Prop) (W : World), Below w.heap.size w W → OwnC W.heap.size W.heap.size J → OwnC W.heap.size W.heap.size Jx →
    (∀ pre x W1, J pre W1 → W.heap.size ≤ W1.heap.size → Nx pre x → YieldAt Fence.wide 2 P l (encs x) W1 fun e W' =>
      (e = .returned (.bool true) ∧ J (pre ++ [x]) W' ∧ W1.heap.size ≤ W'.heap.size ∧ ∀ b, Kb b → b < W1.heap.size → W'.heap[b]? = W1.heap[b]?) ∨
      (e = .returned (.bool false) ∧ Jx (pre ++ [x]) W')) →
    J [] W →
    CallsIn Fence.wide 3 P g (#[.func (.yield l) #[] #[]] ++ lb) W fun e W' => (∃ v, e = .returned v) ∧ ((∃ xs, S xs ∧ J xs W') ∨ (∃ pre, Sp pre ∧ Jx pre W'))

section
variable {P : Program}
theorem rangeZ {α : Type} {g : Operand} {ps : Array Tmp} {assign body : Code} {Q : Exit → Act → World → Prop} {a : Act} {w : World}
    {gf : Nat} {lb : Array Value} (hg : a.eval g = .func (.func gf) #[] lb) (eg : ∀ args w, (callFunc gf args).run P w = .ok (.enter gf args) w)
    {encs : α → Array Value} {Kb : Nat → Prop} {Nx : List α → α → Prop} {S Sp : List α → Prop} {w0 : World} (hseq : SeqZ P gf lb encs Kb Nx S Sp w0)
    (hb0 : Below w0.heap.size w0 w) (hKb : ∀ b, Kb b → b < w.heap.size) (hps : ∀ x, (encs x).size = ps.size)
    (I : List α → World → Prop) (Ix : Code → List α → World → Prop) (hI : OwnC w.heap.size (w.heap.size + 2) I) (hIx : ∀ c, OwnC w.heap.size (w.heap.size + 2) (Ix c)) (h0 : I [] w)
    (Ax : α → Act → World → Prop) (hAx : ∀ x, OwnC w.heap.size (w.heap.size + 2) (Ax x))
    (hassign : ∀ (l : Nat) (pre : List α) (x : α) (W : World) (K : Act → World → Prop), I pre W → w.heap.size + 2 ≤ W.heap.size → (∀ a' Wa, KeepZ Kb w.heap.size W Wa → I pre Wa → Ax x a' Wa → K a' Wa) →
      assign.wpIn (Fence.wide.inRound l) 2 P (Exit.then K (fun _ _ _ => False)) { tmps := (ps.zip (encs x)).foldl (fun t (p, v) => t.setIfInBounds p v) a.tmps, defers := [] } W)
    (hbody : ∀ (l : Nat) (pre : List α) (x : α) (a' : Act) (W : World), I pre W → Ax x a' W → w.heap.size + 2 ≤ W.heap.size → Nx pre x → body.wpIn (Fence.wide.inRound l) 2 P (postZ Kb w.heap.size I Ix (pre ++ [x]) W) a' W)
    (hdone : ∀ (xs : List α) (W : World), S xs → I xs W → W.heap[w.heap.size]? = some (.deferred (some [])) → Q .normal { a with defers := { target := .collected w.heap.size, args := #[] } :: a.defers } W)
    (hstop : ∀ (c : Code) (pre : List α) (W : World), Sp pre → Ix c pre W → W.heap[w.heap.size]? = some (.deferred (some [])) → c.wpIn Fence.wide 3 P Q { a with defers := { target := .collected w.heap.size, args := #[] } :: a.defers } W) :
    (Code.rangeFunc g ps assign body).wpIn Fence.wide 3 P Q a w := by
  refine wpIn_rangeFunc fun fn hfn => ?_
  obtain ⟨B, hB⟩ : ∃ B, w.heap.size = B := ⟨_, rfl⟩
  obtain ⟨bk, hbk⟩ : ∃ bk : LoopState → Option Code → Loop, bk = fun st pe => { state := st, pending := pe, fn, tmps := a.tmps, params := ps, assign, body, defers := B } := ⟨_, rfl⟩
  obtain ⟨W1, hW1⟩ : ∃ W1, (w.alloc (.deferred (some []))).alloc (.loop (bk .ready none)) = W1 := ⟨_, rfl⟩
  have hs1 : W1.heap.size = B + 2 := by rw [← hW1]; simp [hB]
  have hd1 : W1.heap[B]? = some (.deferred (some [])) := by
    rw [← hW1, ← hB]; exact (Below.heap_alloc _ _ _ (by simp)).trans (World.alloc_heap_new w _)
  have hl1 : W1.heap[B + 1]? = some (.loop (bk .ready none)) := by
    rw [← hW1, ← hB]; have := World.alloc_heap_new (w.alloc (.deferred (some []))) (.loop (bk .ready none)); rwa [World.size_alloc] at this
  have hgr : w.grownBy W1 none := by
    rw [← hW1]
    exact ⟨rfl, rfl, rfl, by simp; omega, fun k hk _ => (Below.heap_alloc _ _ _ (by simp; omega)).trans (Below.heap_alloc _ _ _ hk)⟩
  rw [hB] at hI hAx hassign hbody hdone hstop hKb
  have hIx' : ∀ c, OwnC B (B + 2) (Ix c) := fun c => hB ▸ hIx c
  have hI1 : I [] W1 := hI _ _ _ _ h0 hgr (fun r e => by cases e)
  have hb1 : Below w0.heap.size w0 W1 := by
    rw [← hW1]; exact hb0.trans ((((Below.refl _ w).alloc (Nat.le_refl _) _).alloc (by simp) _).mono hb0.size)
  refine ⟨B + 1, [{ target := .collected B, args := #[] }], W1, { target := .fn (.func gf) lb, args := #[.func (.yield (B + 1)) #[] #[]] }, W1, gf, #[.func (.yield (B + 1)) #[] #[]] ++ lb, W1, ?_, ?_, ?_, ?_, ?_, ?_⟩
  · rw [← hW1, hbk, ← hB]; exact run_enterLoop_outer _ _ _ _ _
  · simp only [resolve, hg]
    simp [go_sem]
  · intro f' _; trivial
  · simp [invoke, go_sem, eg]
  · intro h; cases h
  refine callsIn_wide.2 ?_
  refine Calls.mono (callsIn_wide.1 (hseq (B + 1) (fun pre W => I pre W ∧ W.heap[B + 1]? = some (.loop (bk .ready none)) ∧ W.heap[B]? = some (.deferred (some [])))
    (fun pre W => ∃ c, Ix c pre W ∧ W.heap[B + 1]? = some (.loop (bk .done (some c))) ∧ W.heap[B]? = some (.deferred (some []))) W1 hb1 ?_ ?_ ?_ ⟨hI1, hl1, hd1⟩)) ?_
  · rw [hs1]
    rintro s X Y row ⟨hi, hl, hd⟩ hgw hr
    refine ⟨hI _ _ _ _ hi hgw (fun r e => by have := hr r e; omega), ?_, ?_⟩
    · exact (hgw.block _ (Array.getElem?_eq_some_iff.1 hl).1 (fun e => by have := hr _ e.symm; omega)).trans hl
    · exact (hgw.block _ (Array.getElem?_eq_some_iff.1 hd).1 (fun e => by have := hr _ e.symm; omega)).trans hd
  · rw [hs1]
    rintro s X Y row ⟨c, hi, hl, hd⟩ hgw hr
    refine ⟨c, hIx' c _ _ _ _ hi hgw (fun r e => by have := hr r e; omega), ?_, ?_⟩
    · exact (hgw.block _ (Array.getElem?_eq_some_iff.1 hl).1 (fun e => by have := hr _ e.symm; omega)).trans hl
    · exact (hgw.block _ (Array.getElem?_eq_some_iff.1 hd).1 (fun e => by have := hr _ e.symm; omega)).trans hd
  · rintro pre x W ⟨hi, hl, hd⟩ hsz hnx
    rw [hs1] at hsz
    have hy := run_yield (P := P) (args := encs x) hl (by rw [hbk]; exact hps x)
    rw [hbk] at hy
    refine ⟨fn, _, assign, body, hy, roundIn_of_wpIn hfn (hassign _ pre x W _ hi (by omega) fun a' Wa hka hia hax => ?_)⟩
    have hla := (hka.2 (B + 1) (.inr (by omega)) (by omega)).trans hl
    have hda := (hka.2 B (.inr (by omega)) (by omega)).trans hd
    have hlt := (Array.getElem?_eq_some_iff.1 hla).1
    obtain ⟨Wb, hWb⟩ : ∃ Wb, Wa.putObj (B + 1) (.loop { bk .ready none with state := .busy }) = Wb := ⟨_, rfl⟩
    have hgb : Wa.grownBy Wb (some (B + 1)) := by rw [← hWb]; exact grownBy_putObj' _ _ _
    have hlb : Wb.heap[B + 1]? = some (.loop { bk .ready none with state := .busy }) := by rw [← hWb]; exact World.putObj_heap_same hlt
    have hdb : Wb.heap[B]? = some (.deferred (some [])) := by rw [← hWb]; exact (World.putObj_heap_other (by omega)).trans hda
    have hrow : ∀ r, some (B + 1) = some r → B ≤ r ∧ r < B + 2 := fun r e => by cases e; omega
    refine ⟨Wb, by rw [← hWb]; exact run_beginRound hla (by rw [hbk]), wpIn_mono (hbody _ pre x a' Wb (hI _ _ _ _ hia hgb hrow) (hAx x _ _ _ _ hax hgb hrow) (by have := hka.1; have := hgb.size; omega) hnx) ?_⟩
    have fin : ∀ (jump : Option Code) (W3 : World), KeepZ Kb B Wb W3 → (∃ W4, (Instr.endRound (B + 1) jump).run P W3 = .ok (.bool jump.isNone) W4 ∧ W3.grownBy W4 (some (B + 1)) ∧
        W4.heap[B + 1]? = some (.loop (bk (if jump.isNone then .ready else .done) jump)) ∧ W4.heap[B]? = some (.deferred (some []))) := fun jump W3 hk3 => by
      have hl3 := (hk3.2 (B + 1) (.inr (by omega)) (Array.getElem?_eq_some_iff.1 hlb).1).trans hlb
      have hd3 := (hk3.2 B (.inr (by omega)) (Array.getElem?_eq_some_iff.1 hdb).1).trans hdb
      refine ⟨_, run_endRound (P := P) jump hl3, grownBy_putObj' _ _ _, ?_, (World.putObj_heap_other (by omega)).trans hd3⟩
      rw [World.putObj_heap_same (Array.getElem?_eq_some_iff.1 hl3).1, hbk]
    have keep : ∀ {W3 W4 : World}, KeepZ Kb B Wb W3 → W3.grownBy W4 (some (B + 1)) → W.heap.size ≤ W4.heap.size ∧ ∀ b, Kb b → b < W.heap.size → W4.heap[b]? = W.heap[b]? := fun {W3 W4} hk3 hg4 => by
      refine ⟨Nat.le_trans hka.1 (Nat.le_trans hgb.size (Nat.le_trans hk3.1 hg4.size)), fun b hb hlb => ?_⟩
      have hb' : Kb b ∨ (B ≤ b ∧ b < B + 2) := .inl hb
      have hne : b ≠ B + 1 := by have := hKb b hb; omega
      have s1 := Nat.lt_of_lt_of_le hlb hka.1
      have s2 := Nat.lt_of_lt_of_le s1 hgb.size
      have s3 := Nat.lt_of_lt_of_le s2 hk3.1
      exact (hg4.block b s3 (fun e => hne (by injection e))).trans ((hk3.2 b hb' s2).trans ((hgb.block b s1 (fun e => hne (by injection e))).trans (hka.2 b hb' hlb)))
    rintro e a3 W3 hp
    cases e with
    | normal =>
      obtain ⟨hk3, hi3⟩ := hp
      obtain ⟨W4, hr4, hg4, hl4, hd4⟩ := fin none W3 hk3
      exact ⟨_, _, hr4, .inl ⟨rfl, ⟨hI _ _ _ _ hi3 hg4 hrow, hl4, hd4⟩, keep hk3 hg4⟩⟩
    | ret =>
      obtain ⟨hk3, hi3⟩ := hp
      obtain ⟨W4, hr4, hg4, hl4, hd4⟩ := fin (some .ret) W3 hk3
      exact ⟨_, _, hr4, .inr ⟨rfl, .ret, hIx' _ _ _ _ _ hi3 hg4 hrow, hl4, hd4⟩⟩
    | exit id =>
      obtain ⟨hk3, hi3⟩ := hp
      obtain ⟨W4, hr4, hg4, hl4, hd4⟩ := fin (some (.exit id)) W3 hk3
      exact ⟨_, _, hr4, .inr ⟨rfl, .exit id, hIx' _ _ _ _ _ hi3 hg4 hrow, hl4, hd4⟩⟩
    | goto t =>
      obtain ⟨hk3, hi3⟩ := hp
      obtain ⟨W4, hr4, hg4, hl4, hd4⟩ := fin (some (.goto t)) W3 hk3
      exact ⟨_, _, hr4, .inr ⟨rfl, .goto t, hIx' _ _ _ _ _ hi3 hg4 hrow, hl4, hd4⟩⟩
    | panic ch => exact hp.elim
    | outgrown => exact hp.elim
  · rintro e W2 ⟨⟨v, rfl⟩, (⟨xs, hS, hi, hl, hd⟩ | ⟨pre, hSp, c, hi, hl, hd⟩)⟩
    · have hrow : ∀ r, some (B + 1) = some r → B ≤ r ∧ r < B + 2 := fun r e => by cases e; omega
      refine ⟨none, _, by have := run_endLoop (P := P) hl (by rw [hbk]; simp); rw [hbk] at this; exact this, hdone xs _ hS (hI _ _ _ _ hi (grownBy_putObj' _ _ _) hrow) ((World.putObj_heap_other (by omega)).trans hd)⟩
    · have hrow : ∀ r, some (B + 1) = some r → B ≤ r ∧ r < B + 2 := fun r e => by cases e; omega
      refine ⟨some c, _, by have := run_endLoop (P := P) hl (by rw [hbk]; simp); rw [hbk] at this; exact this, hstop c pre _ hSp (hIx' c _ _ _ _ hi (grownBy_putObj' _ _ _) hrow) ((World.putObj_heap_other (by omega)).trans hd)⟩
end
end Go.Proofs.YtdcomnnpnhinfaaDoor
/- The program's line of a level: the iterator's contract. -/
namespace Go.Proofs.YtdcomnnpnhinfaaDoor
open Go.ChangeShapes Go.WideShapes Go.ChangeAt Go.RowKit Go.Shelf
attribute [local go_sem] Oper.semAt_some

theorem wide_fn (f : FuncId) : Fence.wide.fn f := trivial
attribute [local go_sem] wide_fn
section
variable {F : Fence} {n : Nat} {P : Program} {ops : Array Oper} {Q : Exit → Act → World → Prop} {md : Region.Mode}
theorem takeIn {i : Nat} {oi : Oper} {v : Value} {fuel : Nat} {listed : Array Bool} {a : Act} {w : World} (hro : F.round = none) (hi : ops.toList[i]? = some oi)
    (hs : Region.noSelect ops = true) (hf : Region.free md ops listed i = true) (hr : (Region.ready md ops listed).contains i = true)
    (hQ : ∀ c a w, Q (.panic c) (a.put oi.dst v) w → Q (.panic c) a w) (hy : YieldsFenced P ops oi v a)
    (h : wpAnyIn F n P md ops Q fuel (listed.setIfInBounds i true) (a.put oi.dst v) w) : wpAnyIn F n P md ops Q (fuel + 1) listed a w :=
  wpAnyIn_take hro (by rw [← Array.getElem?_toList]; exact hi) hs hf hr hQ hy h
theorem consIn {fuel : Nat} {listed : Array Bool} {a : Act} {w : World} {i : Nat} {o : Oper} {rs : List Nat} (ho : ops.toList[i]? = some o)
    (h : ∀ K' : Act → World → Prop, (∀ a w, wpAnyIn F n P md ops Q fuel (listed.setIfInBounds i true) a w → K' a w) → if Region.wanted o (yielded ops a.tmps) = true then Oper.wpIn F n P o a w K' Q else (∀ f, o.about P w a.eval = some f → F.fn f) ∧ K' (a.put o.dst undef) w)
    (hs : AllReadyIn F n P md ops Q fuel listed a w rs) : AllReadyIn F n P md ops Q fuel listed a w (i :: rs) := AllReadyIn.cons (by rw [← Array.getElem?_toList]; exact ho) h hs
end
def encP (x : Int × Int) : Array Value := #[.agg #[(.int .i64 x.1), (.int .i64 x.2)]]
theorem OwnC.belowZ {β : Type} {B U : Nat} {J : β → World → Prop} (h : OwnC B U J) {s : β} {W W' : World} (hs : J s W) (hb : Below W.heap.size W W') : J s W' :=
  h s W W' none hs ⟨hb.os, hb.tape, hb.output, hb.size, fun k hk _ => hb.block k hk⟩ (fun r e => by cases e)
theorem Box.heapZ {w w' : World} {g : Nat} {xs : List Value} (h : Box w g xs) (he : w'.heap[g]? = w.heap[g]?) (hs : w.heap.size ≤ w'.heap.size) : Box w' g xs :=
  ⟨Nat.lt_of_lt_of_le h.1 hs, fun i v hv => ⟨(World.cell?_of_block (a := ⟨g, i, none⟩) he).trans (h.2 i v hv).1, (World.frozen?_of_block (a := ⟨g, i, none⟩) he).trans (h.2 i v hv).2⟩⟩
theorem Cs.heapZ {w w' : World} {g off : Nat} {xs : List Int} (h : Cs w g off xs) (he : w'.heap[g]? = w.heap[g]?) (hs : w.heap.size ≤ w'.heap.size) : Cs w' g off xs :=
  ⟨Nat.lt_of_lt_of_le h.1 hs, fun k hk => (World.cell?_of_block (a := ⟨g, off + k, none⟩) he).trans (h.2 k hk)⟩
/-- What the iterator reads stands as it stood. -/
def Std (W wr : World) (cb gu : Nat) : Prop := W.heap.size ≤ wr.heap.size ∧ wr.heap[cb]? = W.heap[cb]? ∧ wr.heap[gu]? = W.heap[gu]?
theorem Std.below {W wr w' : World} {cb gu : Nat} (h : Std W wr cb gu) (h1 : cb < W.heap.size) (h2 : gu < W.heap.size) (hb : Below wr.heap.size wr w') : Std W w' cb gu :=
  ⟨Nat.le_trans h.1 hb.size, (hb.block cb (Nat.lt_of_lt_of_le h1 h.1)).trans h.2.1, (hb.block gu (Nat.lt_of_lt_of_le h2 h.1)).trans h.2.2⟩

set_option maxRecDepth 100000 in
set_option maxHeartbeats 4000000 in
theorem lineSeq (n : Int) (h1 : 1 ≤ n) (h2 : n ≤ 60) (cb gu ou cu : Nat) (Kb : Nat → Prop) (hk1 : Kb cb) (hk2 : Kb gu) (w0 : World)
    (hB : Box w0 cb [(.int .i64 n), .slice (some ⟨gu, ou, none⟩) (cop n n.toNat).length cu]) (hC : Cs w0 gu ou (cop n n.toNat)) :
    SeqZ Tryd.prog 89 #[.pointer (some ⟨cb, 0, none⟩)] encP Kb (fun pre x => (pre ++ [x]) <+: ln n) (fun ys => ys = ln n) (fun pre => pre <+: ln n) w0 := by
  intro l J Jx W hW hJ hJx hY h0
  have hro : Fence.wide.round = none := rfl
  obtain ⟨m, hm⟩ : ∃ m, (cop n n.toNat).length = m := ⟨_, rfl⟩
  rw [hm] at hB
  have BW := hB.below hW
  have CW := Lib.hid (hC.below hW)
  have hcb := BW.1
  have hgu := CW.out.1
  have HM := Lib.hid hm
  obtain ⟨N, hN⟩ : ∃ N : Nat, n.toNat = N := ⟨_, rfl⟩
  have HN : Hid (n.toNat = N ∧ (N : Int) = n) := Lib.hid (by omega)
  clear hm hN hB hC
  refine callsIn_of_wp Tryd.func89 rfl trivial ?_ hro
  simp only [Tryd.ntmps89, List.size_toArray, List.length_cons, List.length_nil, Nat.reduceAdd, Nat.reduceSub, Array.replicate_succ, Array.replicate_zero, List.push_toArray, List.append_toArray, List.nil_append, List.cons_append]
  obtain ⟨_, _, _, _, _⟩ := BW.two
  gi_wp2
  gi_loopw [8] (fun i wr => ∃ (k : Nat) (c : Int), Hid ((k : Int) = c) ∧ 0 ≤ c ∧ c ≤ n ∧ i = (.int .i64 c) ∧ J (lnL n k) wr ∧ Std W wr cb gu) (fun i _ => (n - intOf i).toNat)
  case atStart => exact ⟨0, 0, Lib.hid rfl, by omega, by omega, rfl, h0, Nat.le_refl _, rfl, rfl⟩
  case round =>
    obtain ⟨k, c, HK, c0, cn, rfl, hJk, hS⟩ := hrel
    have BR := BW.heapZ hS.2.1 hS.1
    obtain ⟨_, _, _, _, _⟩ := BR.two
    by_cases hlt : c < n
    · by_cases hsk : 0 < c ∧ ¬ n % c = 0
      · have HE := Lib.hid (rowL_skip h1 h2 hsk.1 hlt hsk.2 N)
        obtain ⟨s1, s2⟩ := hsk
        have s3 : (n % c != 0) = true := by simp [s2]
        clear s2
        gi_wp2
        go_roundw
        case rel => exact ⟨k + 1, c + 1, Lib.hid (by have := HK.out; simp; omega), by omega, by omega, rfl, by rw [lnL, HN.out.1, HK.out, HE.out, List.append_nil]; exact hJk, hS⟩
        case measure => simp [intOf]; omega
      · have s3 : (c = 0) ∨ (0 < c ∧ (n % c != 0) = false) := by
          rcases (show c = 0 ∨ 0 < c by omega) with h | h
          · exact .inl h
          · refine .inr ⟨h, ?_⟩
            have : n % c = 0 := by
              apply Classical.byContradiction
              intro h'
              exact hsk ⟨h, h'⟩
            simp [this]
        clear hsk
        have HC0 : Hid ((k : Int) = c ∧ (k : Nat) < N) := Lib.hid (by have := HK.out; have := HN.out; omega)
        rcases s3 with rfl | ⟨s1, s3⟩
        · gi_wp2
          gi_loopw [22] (fun i wx => ∃ (j : Nat) (d : Int), Hid ((j : Int) = d) ∧ 0 ≤ d ∧ d ≤ n ∧ i = (.int .i64 d) ∧ J (lnL n k ++ rowL n 0 j) wx ∧ Std W wx cb gu) (fun i _ => (n - intOf i).toNat)
          case atStart => exact ⟨0, 0, Lib.hid rfl, by omega, by omega, rfl, by rw [rowL, List.append_nil]; exact hJk, hS⟩
          case round =>
            obtain ⟨j, d, HJ, d0, dn, rfl, hJd, hS⟩ := hrel
            have BR := BW.heapZ hS.2.1 hS.1
            obtain ⟨_, _, _, _, _⟩ := BR.two
            by_cases hld : d < n
            · gi_upto_region 8 with fail
              have B5 : Box (wr.alloc (.cells #[(.int .i64 0), (.int .i64 d)] 101)) wr.heap.size [(.int .i64 0), (.int .i64 d)] := Box.new _ _ _
              have T5 : Below wr.heap.size wr (wr.alloc (.cells #[(.int .i64 0), (.int .i64 d)] 101)) := own_alloc (own_refl _) _
              have hJd := hJ.belowZ hJd T5
              have hS := hS.below hcb hgu T5
              generalize wr.alloc (.cells #[(.int .i64 0), (.int .i64 d)] 101) = w5 at *
              have BR := BW.heapZ hS.2.1 hS.1
              obtain ⟨_, _, _, _, _⟩ := BR.two
              obtain ⟨_, _, _, _, _⟩ := B5.two
              have hJz : J (lnL n k ++ rowL n 0 j) w5.drew := hJ.belowZ hJd (own_drew (own_refl _))
              have hSz : Std W w5.drew cb gu := hS.below hcb hgu (own_drew (own_refl _))
              have BRz : Box w5.drew cb [(.int .i64 n), .slice (some ⟨gu, ou, none⟩) m cu] := BR.drew
              have B5z : Box w5.drew wr.heap.size [(.int .i64 0), (.int .i64 d)] := B5.drew
              have hmn : Mid n := by unfold Mid; omega
              have hec : Ent 0 := by unfold Ent; omega
              have hed : Ent d := by unfold Ent; omega
              rcases hp : isP n 0 d with _ | _
              · have HP := Lib.hid (fun w => isPair_is false n 0 d hp hmn hec hed w)
                have HO : Hid (rowL n 0 (j + 1) = rowL n 0 j) := Lib.hid (rowL_no HJ.out (by unfold okP; rw [hp]; rfl))
                clear hp
                refine wpIn_region_any (by kernel_rfl) ?_
                refine takeIn (i := 0) (v := ?_) rfl rfl (by kernel_rfl) (by kernel_rfl) (by kernel_rfl) (fun _ _ _ h => h) ⟨Or.inl ⟨by kernel_rfl, ?_⟩, fun _ => by kernel_rfl⟩ ?_
                rotate_left
                · intro w; go_simp; try with_reducible rfl
                (try simp only [Act.put, List.setIfInBounds_toArray, List.set_cons_zero, List.set_cons_succ])
                refine takeIn (i := 2) (v := ?_) rfl rfl (by kernel_rfl) (by kernel_rfl) (by kernel_rfl) (fun _ _ _ h => h) ⟨Or.inl ⟨by kernel_rfl, ?_⟩, fun _ => by kernel_rfl⟩ ?_
                rotate_left
                · intro w; go_simp; try with_reducible rfl
                (try simp only [Act.put, List.setIfInBounds_toArray, List.set_cons_zero, List.set_cons_succ])
                refine takeIn (i := 3) (v := ?_) rfl rfl (by kernel_rfl) (by kernel_rfl) (by kernel_rfl) (fun _ _ _ h => h) ⟨Or.inl ⟨by kernel_rfl, ?_⟩, fun _ => by kernel_rfl⟩ ?_
                rotate_left
                · intro w; go_simp; try with_reducible rfl
                (try simp only [Act.put, List.setIfInBounds_toArray, List.set_cons_zero, List.set_cons_succ])
                refine wpAnyIn_ready (rs := [1]) (by kernel_rfl) (by simp) ?_
                refine consIn rfl (fun K hK => ?_) ?_
                · go_simp
                  refine hK _ _ ?_
                  clear hK K
                  (try simp only [Act.put, List.setIfInBounds_toArray, List.set_cons_zero, List.set_cons_succ])
                  refine wpAnyIn_ready (rs := [4]) (by kernel_rfl) (by simp) ?_
                  refine consIn rfl (fun K hK => ?_) ?_
                  · go_simp
                    refine (callsIn_wide.2 (HP.out _)).mono ?_
                    rintro e w6 ⟨rfl, hb6⟩
                    have hJ6 := hJ.belowZ hJz hb6
                    have hS6 := hSz.below hcb hgu hb6
                    have BR6 := BRz.below hb6
                    have B56 := B5z.below hb6
                    obtain ⟨_, _, _, _, _⟩ := BR6.two
                    obtain ⟨_, _, _, _, _⟩ := B56.two
                    clear hb6
                    refine hK _ _ ?_
                    clear hK K
                    (try simp only [Act.put, List.setIfInBounds_toArray, List.set_cons_zero, List.set_cons_succ])
                    refine takeIn (i := 5) (v := ?_) rfl rfl (by kernel_rfl) (by kernel_rfl) (by kernel_rfl) (fun _ _ _ h => h) ⟨Or.inl ⟨by kernel_rfl, ?_⟩, fun _ => by kernel_rfl⟩ ?_
                    rotate_left
                    · intro w; go_simp; try with_reducible rfl
                    (try simp only [Act.put, List.setIfInBounds_toArray, List.set_cons_zero, List.set_cons_succ])
                    refine takeIn (i := 6) (v := undef) rfl rfl (by kernel_rfl) (by kernel_rfl) (by kernel_rfl) (fun _ _ _ h => h) ⟨Or.inr ⟨by kernel_rfl, rfl⟩, fun _ => by kernel_rfl⟩ ?_
                    (try simp only [Act.put, List.setIfInBounds_toArray, List.set_cons_zero, List.set_cons_succ])
                    refine takeIn (i := 7) (v := undef) rfl rfl (by kernel_rfl) (by kernel_rfl) (by kernel_rfl) (fun _ _ _ h => h) ⟨Or.inr ⟨by kernel_rfl, rfl⟩, fun _ => by kernel_rfl⟩ ?_
                    (try simp only [Act.put, List.setIfInBounds_toArray, List.set_cons_zero, List.set_cons_succ])
                    refine takeIn (i := 8) (v := undef) rfl rfl (by kernel_rfl) (by kernel_rfl) (by kernel_rfl) (fun _ _ _ h => h) ⟨Or.inr ⟨by kernel_rfl, rfl⟩, fun _ => by kernel_rfl⟩ ?_
                    (try simp only [Act.put, List.setIfInBounds_toArray, List.set_cons_zero, List.set_cons_succ])
                    refine takeIn (i := 10) (v := undef) rfl rfl (by kernel_rfl) (by kernel_rfl) (by kernel_rfl) (fun _ _ _ h => h) ⟨Or.inr ⟨by kernel_rfl, rfl⟩, fun _ => by kernel_rfl⟩ ?_
                    (try simp only [Act.put, List.setIfInBounds_toArray, List.set_cons_zero, List.set_cons_succ])
                    refine wpAnyIn_ready (rs := [9]) (by kernel_rfl) (by simp) ?_
                    refine consIn rfl (fun K hK => ?_) ?_
                    · go_simp
                      refine hK _ _ ?_
                      clear hK K
                      (try simp only [Act.put, List.setIfInBounds_toArray, List.set_cons_zero, List.set_cons_succ])
                      refine takeIn (i := 11) (v := undef) rfl rfl (by kernel_rfl) (by kernel_rfl) (by kernel_rfl) (fun _ _ _ h => h) ⟨Or.inr ⟨by kernel_rfl, rfl⟩, fun _ => by kernel_rfl⟩ ?_
                      (try simp only [Act.put, List.setIfInBounds_toArray, List.set_cons_zero, List.set_cons_succ])
                      refine takeIn (i := 12) (v := ?_) rfl rfl (by kernel_rfl) (by kernel_rfl) (by kernel_rfl) (fun _ _ _ h => h) ⟨Or.inl ⟨by kernel_rfl, ?_⟩, fun _ => by kernel_rfl⟩ ?_
                      rotate_left
                      · intro w; go_simp; try with_reducible rfl
                      (try simp only [Act.put, List.setIfInBounds_toArray, List.set_cons_zero, List.set_cons_succ])
                      refine takeIn (i := 13) (v := ?_) rfl rfl (by kernel_rfl) (by kernel_rfl) (by kernel_rfl) (fun _ _ _ h => h) ⟨Or.inl ⟨by kernel_rfl, ?_⟩, fun _ => by kernel_rfl⟩ ?_
                      rotate_left
                      · intro w; go_simp; try with_reducible rfl
                      (try simp only [Act.put, List.setIfInBounds_toArray, List.set_cons_zero, List.set_cons_succ])
                      refine takeIn (i := 14) (v := undef) rfl rfl (by kernel_rfl) (by kernel_rfl) (by kernel_rfl) (fun _ _ _ h => h) ⟨Or.inr ⟨by kernel_rfl, rfl⟩, fun _ => by kernel_rfl⟩ ?_
                      (try simp only [Act.put, List.setIfInBounds_toArray, List.set_cons_zero, List.set_cons_succ])
                      refine takeIn (i := 15) (v := undef) rfl rfl (by kernel_rfl) (by kernel_rfl) (by kernel_rfl) (fun _ _ _ h => h) ⟨Or.inr ⟨by kernel_rfl, rfl⟩, fun _ => by kernel_rfl⟩ ?_
                      (try simp only [Act.put, List.setIfInBounds_toArray, List.set_cons_zero, List.set_cons_succ])
                      refine takeIn (i := 16) (v := undef) rfl rfl (by kernel_rfl) (by kernel_rfl) (by kernel_rfl) (fun _ _ _ h => h) ⟨Or.inr ⟨by kernel_rfl, rfl⟩, fun _ => by kernel_rfl⟩ ?_
                      (try simp only [Act.put, List.setIfInBounds_toArray, List.set_cons_zero, List.set_cons_succ])
                      refine takeIn (i := 17) (v := undef) rfl rfl (by kernel_rfl) (by kernel_rfl) (by kernel_rfl) (fun _ _ _ h => h) ⟨Or.inr ⟨by kernel_rfl, rfl⟩, fun _ => by kernel_rfl⟩ ?_
                      (try simp only [Act.put, List.setIfInBounds_toArray, List.set_cons_zero, List.set_cons_succ])
                      refine takeIn (i := 18) (v := ?_) rfl rfl (by kernel_rfl) (by kernel_rfl) (by kernel_rfl) (fun _ _ _ h => h) ⟨Or.inl ⟨by kernel_rfl, ?_⟩, fun _ => by kernel_rfl⟩ ?_
                      rotate_left
                      · intro w; go_simp; try with_reducible rfl
                      (try simp only [Act.put, List.setIfInBounds_toArray, List.set_cons_zero, List.set_cons_succ])
                      refine wpAnyIn_done (by kernel_rfl) ?_ _
                      gi_wp2
                      go_roundw
                      case rel => exact ⟨j + 1, d + 1, Lib.hid (by have := HJ.out; simp; omega), by omega, by omega, rfl, by rw [HO.out]; exact hJ6, hS6⟩
                      case measure => simp [intOf]; omega
                    exact AllReadyIn.nil
                  exact AllReadyIn.nil
                exact AllReadyIn.nil
              · have HP := Lib.hid (fun w => isPair_is true n 0 d hp hmn hec hed w)
                obtain ⟨⟨x, y⟩, hr⟩ : ∃ r : Int × Int, nrm n (rst 0 n) (rst d n) = r := ⟨_, rfl⟩
                have HR := Lib.hid (fun lv w hL => normal_any n 0 d h1 h2 (rst_i64 hec) (rst_i64 hed) (x, y) hr lv w hL)
                simp only at HR
                have HLV : ∀ w', Std W w' cb gu → Lev w' n (.agg #[(.int .i64 n), .slice (some ⟨gu, ou, none⟩) m cu]) := fun w' h => ⟨gu, ou, cu, by rw [HM.out], CW.out.heapZ h.2.2 h.1⟩
                have hr' : nrm n 0 d = (x, y) := by
                  rw [← hr, rst_emod _ _ h1, rst_emod _ _ h1, Int.emod_eq_of_lt (by omega) (by omega), Int.emod_eq_of_lt d0 hld]
                by_cases hx : x = 0
                · rw [hx] at HR hr'
                  by_cases hy : y = d
                  · rw [hy] at HR hr'
                    have HO := Lib.hid (rowL_yes (n := n) (c := 0) HJ.out (by unfold okP; rw [hp, hr']; simp))
                    have HPF : Hid ((lnL n k ++ rowL n 0 j) ++ [(0, d)] <+: ln n) := Lib.hid (by
                      have := part_prefix (n := n) (k := k) (j := j + 1) (by have := HC0.out; have := HN.out; omega) (by have := HJ.out; omega)
                      rw [HC0.out.1, HO.out, ← List.append_assoc] at this
                      exact this)
                    clear hp hr hr' hx hy
                    refine wpIn_region_any (by kernel_rfl) ?_
                    refine takeIn (i := 0) (v := ?_) rfl rfl (by kernel_rfl) (by kernel_rfl) (by kernel_rfl) (fun _ _ _ h => h) ⟨Or.inl ⟨by kernel_rfl, ?_⟩, fun _ => by kernel_rfl⟩ ?_
                    rotate_left
                    · intro w; go_simp; try with_reducible rfl
                    (try simp only [Act.put, List.setIfInBounds_toArray, List.set_cons_zero, List.set_cons_succ])
                    refine takeIn (i := 2) (v := ?_) rfl rfl (by kernel_rfl) (by kernel_rfl) (by kernel_rfl) (fun _ _ _ h => h) ⟨Or.inl ⟨by kernel_rfl, ?_⟩, fun _ => by kernel_rfl⟩ ?_
                    rotate_left
                    · intro w; go_simp; try with_reducible rfl
                    (try simp only [Act.put, List.setIfInBounds_toArray, List.set_cons_zero, List.set_cons_succ])
                    refine takeIn (i := 3) (v := ?_) rfl rfl (by kernel_rfl) (by kernel_rfl) (by kernel_rfl) (fun _ _ _ h => h) ⟨Or.inl ⟨by kernel_rfl, ?_⟩, fun _ => by kernel_rfl⟩ ?_
                    rotate_left
                    · intro w; go_simp; try with_reducible rfl
                    (try simp only [Act.put, List.setIfInBounds_toArray, List.set_cons_zero, List.set_cons_succ])
                    refine wpAnyIn_ready (rs := [1]) (by kernel_rfl) (by simp) ?_
                    refine consIn rfl (fun K hK => ?_) ?_
                    · go_simp
                      refine hK _ _ ?_
                      clear hK K
                      (try simp only [Act.put, List.setIfInBounds_toArray, List.set_cons_zero, List.set_cons_succ])
                      refine wpAnyIn_ready (rs := [4]) (by kernel_rfl) (by simp) ?_
                      refine consIn rfl (fun K hK => ?_) ?_
                      · go_simp
                        refine (callsIn_wide.2 (HP.out _)).mono ?_
                        rintro e w6 ⟨rfl, hb6⟩
                        have hJ6 := hJ.belowZ hJz hb6
                        have hS6 := hSz.below hcb hgu hb6
                        have BR6 := BRz.below hb6
                        have B56 := B5z.below hb6
                        obtain ⟨_, _, _, _, _⟩ := BR6.two
                        obtain ⟨_, _, _, _, _⟩ := B56.two
                        clear hb6
                        refine hK _ _ ?_
                        clear hK K
                        (try simp only [Act.put, List.setIfInBounds_toArray, List.set_cons_zero, List.set_cons_succ])
                        refine takeIn (i := 5) (v := ?_) rfl rfl (by kernel_rfl) (by kernel_rfl) (by kernel_rfl) (fun _ _ _ h => h) ⟨Or.inl ⟨by kernel_rfl, ?_⟩, fun _ => by kernel_rfl⟩ ?_
                        rotate_left
                        · intro w; go_simp; try with_reducible rfl
                        (try simp only [Act.put, List.setIfInBounds_toArray, List.set_cons_zero, List.set_cons_succ])
                        refine takeIn (i := 7) (v := ?_) rfl rfl (by kernel_rfl) (by kernel_rfl) (by kernel_rfl) (fun _ _ _ h => h) ⟨Or.inl ⟨by kernel_rfl, ?_⟩, fun _ => by kernel_rfl⟩ ?_
                        rotate_left
                        · intro w; go_simp; try with_reducible rfl
                        (try simp only [Act.put, List.setIfInBounds_toArray, List.set_cons_zero, List.set_cons_succ])
                        refine takeIn (i := 8) (v := ?_) rfl rfl (by kernel_rfl) (by kernel_rfl) (by kernel_rfl) (fun _ _ _ h => h) ⟨Or.inl ⟨by kernel_rfl, ?_⟩, fun _ => by kernel_rfl⟩ ?_
                        rotate_left
                        · intro w; go_simp; try with_reducible rfl
                        (try simp only [Act.put, List.setIfInBounds_toArray, List.set_cons_zero, List.set_cons_succ])
                        refine wpAnyIn_ready (rs := [6, 10]) (by kernel_rfl) (by simp) ?_
                        refine consIn rfl (fun K hK => ?_) ?_
                        · go_simp
                          refine hK _ _ ?_
                          clear hK K
                          (try simp only [Act.put, List.setIfInBounds_toArray, List.set_cons_zero, List.set_cons_succ])
                          refine wpAnyIn_ready (rs := [9, 10]) (by kernel_rfl) (by simp) ?_
                          refine consIn rfl (fun K hK => ?_) ?_
                          · go_simp
                            refine (callsIn_wide.2 (HR.out _ _ (HLV _ hS6))).mono ?_
                            rintro e w7 ⟨rfl, hb7⟩
                            have hJ7 := hJ.belowZ hJ6 hb7
                            have hS7 := hS6.below hcb hgu hb7
                            have B57 := B56.below hb7
                            obtain ⟨_, _, _, _, _⟩ := B57.two
                            clear hb7
                            obtain ⟨fn, tmps, assign, body, hyl, hRd⟩ := hY _ _ _ hJ7 hS7.1 HPF.out
                            simp only [encP] at hyl
                            refine hK _ _ ?_
                            clear hK K
                            (try simp only [Act.put, List.setIfInBounds_toArray, List.set_cons_zero, List.set_cons_succ])
                            refine wpAnyIn_ready (rs := [10]) (by kernel_rfl) (by simp) ?_
                            refine consIn rfl (fun K hK => ?_) ?_
                            · go_simp
                              refine hK _ _ ?_
                              clear hK K
                              (try simp only [Act.put, List.setIfInBounds_toArray, List.set_cons_zero, List.set_cons_succ])
                              refine takeIn (i := 11) (v := ?_) rfl rfl (by kernel_rfl) (by kernel_rfl) (by kernel_rfl) (fun _ _ _ h => h) ⟨Or.inl ⟨by kernel_rfl, ?_⟩, fun _ => by kernel_rfl⟩ ?_
                              rotate_left
                              · intro w; go_simp; try with_reducible rfl
                              (try simp only [Act.put, List.setIfInBounds_toArray, List.set_cons_zero, List.set_cons_succ])
                              refine takeIn (i := 12) (v := ?_) rfl rfl (by kernel_rfl) (by kernel_rfl) (by kernel_rfl) (fun _ _ _ h => h) ⟨Or.inl ⟨by kernel_rfl, ?_⟩, fun _ => by kernel_rfl⟩ ?_
                              rotate_left
                              · intro w; go_simp; try with_reducible rfl
                              (try simp only [Act.put, List.setIfInBounds_toArray, List.set_cons_zero, List.set_cons_succ])
                              refine takeIn (i := 13) (v := ?_) rfl rfl (by kernel_rfl) (by kernel_rfl) (by kernel_rfl) (fun _ _ _ h => h) ⟨Or.inl ⟨by kernel_rfl, ?_⟩, fun _ => by kernel_rfl⟩ ?_
                              rotate_left
                              · intro w; go_simp; try with_reducible rfl
                              (try simp only [Act.put, List.setIfInBounds_toArray, List.set_cons_zero, List.set_cons_succ])
                              refine takeIn (i := 14) (v := ?_) rfl rfl (by kernel_rfl) (by kernel_rfl) (by kernel_rfl) (fun _ _ _ h => h) ⟨Or.inl ⟨by kernel_rfl, ?_⟩, fun _ => by kernel_rfl⟩ ?_
                              rotate_left
                              · intro w; go_simp; try with_reducible rfl
                              (try simp only [Act.put, List.setIfInBounds_toArray, List.set_cons_zero, List.set_cons_succ])
                              refine wpAnyIn_ready (rs := [15]) (by kernel_rfl) (by simp) ?_
                              refine consIn rfl (fun K hK => ?_) ?_
                              · go_simp
                                refine hK _ _ ?_
                                clear hK K
                                (try simp only [Act.put, List.setIfInBounds_toArray, List.set_cons_zero, List.set_cons_succ])
                                refine wpAnyIn_ready (rs := [16]) (by kernel_rfl) (by simp) ?_
                                refine consIn rfl (fun K hK => ?_) ?_
                                · go_simp
                                  refine hRd.mono ?_
                                  intro e w8 h8
                                  obtain ⟨b, rfl, hb8⟩ : ∃ b : Bool, e = .returned (.bool b) ∧ ((b = true ∧ J ((lnL n k ++ rowL n 0 j) ++ [(0, d)]) w8 ∧ w7.heap.size ≤ w8.heap.size ∧ (∀ b, Kb b → b < w7.heap.size → w8.heap[b]? = w7.heap[b]?)) ∨ (b = false ∧ Jx ((lnL n k ++ rowL n 0 j) ++ [(0, d)]) w8)) := by
                                    rcases h8 with ⟨h, h'⟩ | ⟨h, h'⟩
                                    · exact ⟨true, h, .inl ⟨rfl, h'⟩⟩
                                    · exact ⟨false, h, .inr ⟨rfl, h'⟩⟩
                                  clear h8 hRd
                                  dsimp only
                                  refine hK _ _ ?_
                                  clear hK K
                                  (try simp only [Act.put, List.setIfInBounds_toArray, List.set_cons_zero, List.set_cons_succ])
                                  refine takeIn (i := 17) (v := ?_) rfl rfl (by kernel_rfl) (by kernel_rfl) (by kernel_rfl) (fun _ _ _ h => h) ⟨Or.inl ⟨by kernel_rfl, ?_⟩, fun _ => by kernel_rfl⟩ ?_
                                  rotate_left
                                  · intro w; go_simp; try with_reducible rfl
                                  (try simp only [Act.put, List.setIfInBounds_toArray, List.set_cons_zero, List.set_cons_succ])
                                  refine takeIn (i := 18) (v := ?_) rfl rfl (by kernel_rfl) (by kernel_rfl) (by kernel_rfl) (fun _ _ _ h => h) ⟨Or.inl ⟨by kernel_rfl, ?_⟩, fun _ => by kernel_rfl⟩ ?_
                                  rotate_left
                                  · intro w; go_simp; try with_reducible rfl
                                  (try simp only [Act.put, List.setIfInBounds_toArray, List.set_cons_zero, List.set_cons_succ])
                                  refine wpAnyIn_done (by kernel_rfl) ?_ _
                                  rcases hb8 with ⟨rfl, hJ8, hz8, hk8⟩ | ⟨rfl, hJx8⟩
                                  · gi_wp2
                                    go_roundw
                                    case rel => exact ⟨j + 1, d + 1, Lib.hid (by have := HJ.out; simp; omega), by omega, by omega, rfl, by rw [HO.out, ← List.append_assoc]; exact hJ8, Nat.le_trans hS7.1 hz8, (hk8 cb hk1 (Nat.lt_of_lt_of_le hcb hS7.1)).trans hS7.2.1, (hk8 gu hk2 (Nat.lt_of_lt_of_le hgu hS7.1)).trans hS7.2.2⟩
                                    case measure => simp [intOf]; omega
                                  · gi_wp2
                                    refine bodyPost_ret (results_none rfl _ _ _) rfl ?_
                                    exact ⟨⟨_, rfl⟩, .inr ⟨_, HPF.out, hJx8⟩⟩
                                exact AllReadyIn.nil
                              exact AllReadyIn.nil
                            exact AllReadyIn.nil
                          refine consIn rfl (fun K hK => ?_) ?_
                          · go_simp
                            refine hK _ _ ?_
                            clear hK K
                            (try simp only [Act.put, List.setIfInBounds_toArray, List.set_cons_zero, List.set_cons_succ])
                            refine wpAnyIn_ready (rs := [9]) (by kernel_rfl) (by simp) ?_
                            refine consIn rfl (fun K hK => ?_) ?_
                            · go_simp
                              refine (callsIn_wide.2 (HR.out _ _ (HLV _ hS6))).mono ?_
                              rintro e w7 ⟨rfl, hb7⟩
                              have hJ7 := hJ.belowZ hJ6 hb7
                              have hS7 := hS6.below hcb hgu hb7
                              have B57 := B56.below hb7
                              obtain ⟨_, _, _, _, _⟩ := B57.two
                              clear hb7
                              obtain ⟨fn, tmps, assign, body, hyl, hRd⟩ := hY _ _ _ hJ7 hS7.1 HPF.out
                              simp only [encP] at hyl
                              refine hK _ _ ?_
                              clear hK K
                              (try simp only [Act.put, List.setIfInBounds_toArray, List.set_cons_zero, List.set_cons_succ])
                              refine takeIn (i := 11) (v := ?_) rfl rfl (by kernel_rfl) (by kernel_rfl) (by kernel_rfl) (fun _ _ _ h => h) ⟨Or.inl ⟨by kernel_rfl, ?_⟩, fun _ => by kernel_rfl⟩ ?_
                              rotate_left
                              · intro w; go_simp; try with_reducible rfl
                              (try simp only [Act.put, List.setIfInBounds_toArray, List.set_cons_zero, List.set_cons_succ])
                              refine takeIn (i := 12) (v := ?_) rfl rfl (by kernel_rfl) (by kernel_rfl) (by kernel_rfl) (fun _ _ _ h => h) ⟨Or.inl ⟨by kernel_rfl, ?_⟩, fun _ => by kernel_rfl⟩ ?_
                              rotate_left
                              · intro w; go_simp; try with_reducible rfl
                              (try simp only [Act.put, List.setIfInBounds_toArray, List.set_cons_zero, List.set_cons_succ])
                              refine takeIn (i := 13) (v := ?_) rfl rfl (by kernel_rfl) (by kernel_rfl) (by kernel_rfl) (fun _ _ _ h => h) ⟨Or.inl ⟨by kernel_rfl, ?_⟩, fun _ => by kernel_rfl⟩ ?_
                              rotate_left
                              · intro w; go_simp; try with_reducible rfl
                              (try simp only [Act.put, List.setIfInBounds_toArray, List.set_cons_zero, List.set_cons_succ])
                              refine takeIn (i := 14) (v := ?_) rfl rfl (by kernel_rfl) (by kernel_rfl) (by kernel_rfl) (fun _ _ _ h => h) ⟨Or.inl ⟨by kernel_rfl, ?_⟩, fun _ => by kernel_rfl⟩ ?_
                              rotate_left
                              · intro w; go_simp; try with_reducible rfl
                              (try simp only [Act.put, List.setIfInBounds_toArray, List.set_cons_zero, List.set_cons_succ])
                              refine wpAnyIn_ready (rs := [15]) (by kernel_rfl) (by simp) ?_
                              refine consIn rfl (fun K hK => ?_) ?_
                              · go_simp
                                refine hK _ _ ?_
                                clear hK K
                                (try simp only [Act.put, List.setIfInBounds_toArray, List.set_cons_zero, List.set_cons_succ])
                                refine wpAnyIn_ready (rs := [16]) (by kernel_rfl) (by simp) ?_
                                refine consIn rfl (fun K hK => ?_) ?_
                                · go_simp
                                  refine hRd.mono ?_
                                  intro e w8 h8
                                  obtain ⟨b, rfl, hb8⟩ : ∃ b : Bool, e = .returned (.bool b) ∧ ((b = true ∧ J ((lnL n k ++ rowL n 0 j) ++ [(0, d)]) w8 ∧ w7.heap.size ≤ w8.heap.size ∧ (∀ b, Kb b → b < w7.heap.size → w8.heap[b]? = w7.heap[b]?)) ∨ (b = false ∧ Jx ((lnL n k ++ rowL n 0 j) ++ [(0, d)]) w8)) := by
                                    rcases h8 with ⟨h, h'⟩ | ⟨h, h'⟩
                                    · exact ⟨true, h, .inl ⟨rfl, h'⟩⟩
                                    · exact ⟨false, h, .inr ⟨rfl, h'⟩⟩
                                  clear h8 hRd
                                  dsimp only
                                  refine hK _ _ ?_
                                  clear hK K
                                  (try simp only [Act.put, List.setIfInBounds_toArray, List.set_cons_zero, List.set_cons_succ])
                                  refine takeIn (i := 17) (v := ?_) rfl rfl (by kernel_rfl) (by kernel_rfl) (by kernel_rfl) (fun _ _ _ h => h) ⟨Or.inl ⟨by kernel_rfl, ?_⟩, fun _ => by kernel_rfl⟩ ?_
                                  rotate_left
                                  · intro w; go_simp; try with_reducible rfl
                                  (try simp only [Act.put, List.setIfInBounds_toArray, List.set_cons_zero, List.set_cons_succ])
                                  refine takeIn (i := 18) (v := ?_) rfl rfl (by kernel_rfl) (by kernel_rfl) (by kernel_rfl) (fun _ _ _ h => h) ⟨Or.inl ⟨by kernel_rfl, ?_⟩, fun _ => by kernel_rfl⟩ ?_
                                  rotate_left
                                  · intro w; go_simp; try with_reducible rfl
                                  (try simp only [Act.put, List.setIfInBounds_toArray, List.set_cons_zero, List.set_cons_succ])
                                  refine wpAnyIn_done (by kernel_rfl) ?_ _
                                  rcases hb8 with ⟨rfl, hJ8, hz8, hk8⟩ | ⟨rfl, hJx8⟩
                                  · gi_wp2
                                    go_roundw
                                    case rel => exact ⟨j + 1, d + 1, Lib.hid (by have := HJ.out; simp; omega), by omega, by omega, rfl, by rw [HO.out, ← List.append_assoc]; exact hJ8, Nat.le_trans hS7.1 hz8, (hk8 cb hk1 (Nat.lt_of_lt_of_le hcb hS7.1)).trans hS7.2.1, (hk8 gu hk2 (Nat.lt_of_lt_of_le hgu hS7.1)).trans hS7.2.2⟩
                                    case measure => simp [intOf]; omega
                                  · gi_wp2
                                    refine bodyPost_ret (results_none rfl _ _ _) rfl ?_
                                    exact ⟨⟨_, rfl⟩, .inr ⟨_, HPF.out, hJx8⟩⟩
                                exact AllReadyIn.nil
                              exact AllReadyIn.nil
                            exact AllReadyIn.nil
                          exact AllReadyIn.nil
                        refine consIn rfl (fun K hK => ?_) ?_
                        · go_simp
                          refine hK _ _ ?_
                          clear hK K
                          (try simp only [Act.put, List.setIfInBounds_toArray, List.set_cons_zero, List.set_cons_succ])
                          refine wpAnyIn_ready (rs := [6]) (by kernel_rfl) (by simp) ?_
                          refine consIn rfl (fun K hK => ?_) ?_
                          · go_simp
                            refine hK _ _ ?_
                            clear hK K
                            (try simp only [Act.put, List.setIfInBounds_toArray, List.set_cons_zero, List.set_cons_succ])
                            refine wpAnyIn_ready (rs := [9]) (by kernel_rfl) (by simp) ?_
                            refine consIn rfl (fun K hK => ?_) ?_
                            · go_simp
                              refine (callsIn_wide.2 (HR.out _ _ (HLV _ hS6))).mono ?_
                              rintro e w7 ⟨rfl, hb7⟩
                              have hJ7 := hJ.belowZ hJ6 hb7
                              have hS7 := hS6.below hcb hgu hb7
                              have B57 := B56.below hb7
                              obtain ⟨_, _, _, _, _⟩ := B57.two
                              clear hb7
                              obtain ⟨fn, tmps, assign, body, hyl, hRd⟩ := hY _ _ _ hJ7 hS7.1 HPF.out
                              simp only [encP] at hyl
                              refine hK _ _ ?_
                              clear hK K
                              (try simp only [Act.put, List.setIfInBounds_toArray, List.set_cons_zero, List.set_cons_succ])
                              refine takeIn (i := 11) (v := ?_) rfl rfl (by kernel_rfl) (by kernel_rfl) (by kernel_rfl) (fun _ _ _ h => h) ⟨Or.inl ⟨by kernel_rfl, ?_⟩, fun _ => by kernel_rfl⟩ ?_
                              rotate_left
                              · intro w; go_simp; try with_reducible rfl
                              (try simp only [Act.put, List.setIfInBounds_toArray, List.set_cons_zero, List.set_cons_succ])
                              refine takeIn (i := 12) (v := ?_) rfl rfl (by kernel_rfl) (by kernel_rfl) (by kernel_rfl) (fun _ _ _ h => h) ⟨Or.inl ⟨by kernel_rfl, ?_⟩, fun _ => by kernel_rfl⟩ ?_
                              rotate_left
                              · intro w; go_simp; try with_reducible rfl
                              (try simp only [Act.put, List.setIfInBounds_toArray, List.set_cons_zero, List.set_cons_succ])
                              refine takeIn (i := 13) (v := ?_) rfl rfl (by kernel_rfl) (by kernel_rfl) (by kernel_rfl) (fun _ _ _ h => h) ⟨Or.inl ⟨by kernel_rfl, ?_⟩, fun _ => by kernel_rfl⟩ ?_
                              rotate_left
                              · intro w; go_simp; try with_reducible rfl
                              (try simp only [Act.put, List.setIfInBounds_toArray, List.set_cons_zero, List.set_cons_succ])
                              refine takeIn (i := 14) (v := ?_) rfl rfl (by kernel_rfl) (by kernel_rfl) (by kernel_rfl) (fun _ _ _ h => h) ⟨Or.inl ⟨by kernel_rfl, ?_⟩, fun _ => by kernel_rfl⟩ ?_
                              rotate_left
                              · intro w; go_simp; try with_reducible rfl
                              (try simp only [Act.put, List.setIfInBounds_toArray, List.set_cons_zero, List.set_cons_succ])
                              refine wpAnyIn_ready (rs := [15]) (by kernel_rfl) (by simp) ?_
                              refine consIn rfl (fun K hK => ?_) ?_
                              · go_simp
                                refine hK _ _ ?_
                                clear hK K
                                (try simp only [Act.put, List.setIfInBounds_toArray, List.set_cons_zero, List.set_cons_succ])
                                refine wpAnyIn_ready (rs := [16]) (by kernel_rfl) (by simp) ?_
                                refine consIn rfl (fun K hK => ?_) ?_
                                · go_simp
                                  refine hRd.mono ?_
                                  intro e w8 h8
                                  obtain ⟨b, rfl, hb8⟩ : ∃ b : Bool, e = .returned (.bool b) ∧ ((b = true ∧ J ((lnL n k ++ rowL n 0 j) ++ [(0, d)]) w8 ∧ w7.heap.size ≤ w8.heap.size ∧ (∀ b, Kb b → b < w7.heap.size → w8.heap[b]? = w7.heap[b]?)) ∨ (b = false ∧ Jx ((lnL n k ++ rowL n 0 j) ++ [(0, d)]) w8)) := by
                                    rcases h8 with ⟨h, h'⟩ | ⟨h, h'⟩
                                    · exact ⟨true, h, .inl ⟨rfl, h'⟩⟩
                                    · exact ⟨false, h, .inr ⟨rfl, h'⟩⟩
                                  clear h8 hRd
                                  dsimp only
                                  refine hK _ _ ?_
                                  clear hK K
                                  (try simp only [Act.put, List.setIfInBounds_toArray, List.set_cons_zero, List.set_cons_succ])
                                  refine takeIn (i := 17) (v := ?_) rfl rfl (by kernel_rfl) (by kernel_rfl) (by kernel_rfl) (fun _ _ _ h => h) ⟨Or.inl ⟨by kernel_rfl, ?_⟩, fun _ => by kernel_rfl⟩ ?_
                                  rotate_left
                                  · intro w; go_simp; try with_reducible rfl
                                  (try simp only [Act.put, List.setIfInBounds_toArray, List.set_cons_zero, List.set_cons_succ])
                                  refine takeIn (i := 18) (v := ?_) rfl rfl (by kernel_rfl) (by kernel_rfl) (by kernel_rfl) (fun _ _ _ h => h) ⟨Or.inl ⟨by kernel_rfl, ?_⟩, fun _ => by kernel_rfl⟩ ?_
                                  rotate_left
                                  · intro w; go_simp; try with_reducible rfl
                                  (try simp only [Act.put, List.setIfInBounds_toArray, List.set_cons_zero, List.set_cons_succ])
                                  refine wpAnyIn_done (by kernel_rfl) ?_ _
                                  rcases hb8 with ⟨rfl, hJ8, hz8, hk8⟩ | ⟨rfl, hJx8⟩
                                  · gi_wp2
                                    go_roundw
                                    case rel => exact ⟨j + 1, d + 1, Lib.hid (by have := HJ.out; simp; omega), by omega, by omega, rfl, by rw [HO.out, ← List.append_assoc]; exact hJ8, Nat.le_trans hS7.1 hz8, (hk8 cb hk1 (Nat.lt_of_lt_of_le hcb hS7.1)).trans hS7.2.1, (hk8 gu hk2 (Nat.lt_of_lt_of_le hgu hS7.1)).trans hS7.2.2⟩
                                    case measure => simp [intOf]; omega
                                  · gi_wp2
                                    refine bodyPost_ret (results_none rfl _ _ _) rfl ?_
                                    exact ⟨⟨_, rfl⟩, .inr ⟨_, HPF.out, hJx8⟩⟩
                                exact AllReadyIn.nil
                              exact AllReadyIn.nil
                            exact AllReadyIn.nil
                          exact AllReadyIn.nil
                        exact AllReadyIn.nil
                      exact AllReadyIn.nil
                    exact AllReadyIn.nil
                  · have HO : Hid (rowL n 0 (j + 1) = rowL n 0 j) := Lib.hid (rowL_no HJ.out (by
                      unfold okP
                      rw [hr', Bool.and_eq_false_iff]
                      exact .inr (decide_eq_false fun h => by injection h with ha hb; exact hy hb)))
                    clear hp hr hr' hx
                    refine wpIn_region_any (by kernel_rfl) ?_
                    refine takeIn (i := 0) (v := ?_) rfl rfl (by kernel_rfl) (by kernel_rfl) (by kernel_rfl) (fun _ _ _ h => h) ⟨Or.inl ⟨by kernel_rfl, ?_⟩, fun _ => by kernel_rfl⟩ ?_
                    rotate_left
                    · intro w; go_simp; try with_reducible rfl
                    (try simp only [Act.put, List.setIfInBounds_toArray, List.set_cons_zero, List.set_cons_succ])
                    refine takeIn (i := 2) (v := ?_) rfl rfl (by kernel_rfl) (by kernel_rfl) (by kernel_rfl) (fun _ _ _ h => h) ⟨Or.inl ⟨by kernel_rfl, ?_⟩, fun _ => by kernel_rfl⟩ ?_
                    rotate_left
                    · intro w; go_simp; try with_reducible rfl
                    (try simp only [Act.put, List.setIfInBounds_toArray, List.set_cons_zero, List.set_cons_succ])
                    refine takeIn (i := 3) (v := ?_) rfl rfl (by kernel_rfl) (by kernel_rfl) (by kernel_rfl) (fun _ _ _ h => h) ⟨Or.inl ⟨by kernel_rfl, ?_⟩, fun _ => by kernel_rfl⟩ ?_
                    rotate_left
                    · intro w; go_simp; try with_reducible rfl
                    (try simp only [Act.put, List.setIfInBounds_toArray, List.set_cons_zero, List.set_cons_succ])
                    refine wpAnyIn_ready (rs := [1]) (by kernel_rfl) (by simp) ?_
                    refine consIn rfl (fun K hK => ?_) ?_
                    · go_simp
                      refine hK _ _ ?_
                      clear hK K
                      (try simp only [Act.put, List.setIfInBounds_toArray, List.set_cons_zero, List.set_cons_succ])
                      refine wpAnyIn_ready (rs := [4]) (by kernel_rfl) (by simp) ?_
                      refine consIn rfl (fun K hK => ?_) ?_
                      · go_simp
                        refine (callsIn_wide.2 (HP.out _)).mono ?_
                        rintro e w6 ⟨rfl, hb6⟩
                        have hJ6 := hJ.belowZ hJz hb6
                        have hS6 := hSz.below hcb hgu hb6
                        have BR6 := BRz.below hb6
                        have B56 := B5z.below hb6
                        obtain ⟨_, _, _, _, _⟩ := BR6.two
                        obtain ⟨_, _, _, _, _⟩ := B56.two
                        clear hb6
                        refine hK _ _ ?_
                        clear hK K
                        (try simp only [Act.put, List.setIfInBounds_toArray, List.set_cons_zero, List.set_cons_succ])
                        refine takeIn (i := 5) (v := ?_) rfl rfl (by kernel_rfl) (by kernel_rfl) (by kernel_rfl) (fun _ _ _ h => h) ⟨Or.inl ⟨by kernel_rfl, ?_⟩, fun _ => by kernel_rfl⟩ ?_
                        rotate_left
                        · intro w; go_simp; try with_reducible rfl
                        (try simp only [Act.put, List.setIfInBounds_toArray, List.set_cons_zero, List.set_cons_succ])
                        refine takeIn (i := 7) (v := ?_) rfl rfl (by kernel_rfl) (by kernel_rfl) (by kernel_rfl) (fun _ _ _ h => h) ⟨Or.inl ⟨by kernel_rfl, ?_⟩, fun _ => by kernel_rfl⟩ ?_
                        rotate_left
                        · intro w; go_simp; try with_reducible rfl
                        (try simp only [Act.put, List.setIfInBounds_toArray, List.set_cons_zero, List.set_cons_succ])
                        refine takeIn (i := 8) (v := ?_) rfl rfl (by kernel_rfl) (by kernel_rfl) (by kernel_rfl) (fun _ _ _ h => h) ⟨Or.inl ⟨by kernel_rfl, ?_⟩, fun _ => by kernel_rfl⟩ ?_
                        rotate_left
                        · intro w; go_simp; try with_reducible rfl
                        (try simp only [Act.put, List.setIfInBounds_toArray, List.set_cons_zero, List.set_cons_succ])
                        refine wpAnyIn_ready (rs := [6, 10]) (by kernel_rfl) (by simp) ?_
                        refine consIn rfl (fun K hK => ?_) ?_
                        · go_simp
                          refine hK _ _ ?_
                          clear hK K
                          (try simp only [Act.put, List.setIfInBounds_toArray, List.set_cons_zero, List.set_cons_succ])
                          refine wpAnyIn_ready (rs := [9, 10]) (by kernel_rfl) (by simp) ?_
                          refine consIn rfl (fun K hK => ?_) ?_
                          · go_simp
                            refine (callsIn_wide.2 (HR.out _ _ (HLV _ hS6))).mono ?_
                            rintro e w7 ⟨rfl, hb7⟩
                            have hJ7 := hJ.belowZ hJ6 hb7
                            have hS7 := hS6.below hcb hgu hb7
                            have B57 := B56.below hb7
                            obtain ⟨_, _, _, _, _⟩ := B57.two
                            clear hb7
                            refine hK _ _ ?_
                            clear hK K
                            (try simp only [Act.put, List.setIfInBounds_toArray, List.set_cons_zero, List.set_cons_succ])
                            refine wpAnyIn_ready (rs := [10]) (by kernel_rfl) (by simp) ?_
                            refine consIn rfl (fun K hK => ?_) ?_
                            · go_simp
                              refine hK _ _ ?_
                              clear hK K
                              (try simp only [Act.put, List.setIfInBounds_toArray, List.set_cons_zero, List.set_cons_succ])
                              refine takeIn (i := 11) (v := ?_) rfl rfl (by kernel_rfl) (by kernel_rfl) (by kernel_rfl) (fun _ _ _ h => h) ⟨Or.inl ⟨by kernel_rfl, ?_⟩, fun _ => by kernel_rfl⟩ ?_
                              rotate_left
                              · intro w; go_simp; try with_reducible rfl
                              (try simp only [Act.put, List.setIfInBounds_toArray, List.set_cons_zero, List.set_cons_succ])
                              refine takeIn (i := 12) (v := ?_) rfl rfl (by kernel_rfl) (by kernel_rfl) (by kernel_rfl) (fun _ _ _ h => h) ⟨Or.inl ⟨by kernel_rfl, ?_⟩, fun _ => by kernel_rfl⟩ ?_
                              rotate_left
                              · intro w; go_simp; try with_reducible rfl
                              (try simp only [Act.put, List.setIfInBounds_toArray, List.set_cons_zero, List.set_cons_succ])
                              refine takeIn (i := 13) (v := ?_) rfl rfl (by kernel_rfl) (by kernel_rfl) (by kernel_rfl) (fun _ _ _ h => h) ⟨Or.inl ⟨by kernel_rfl, ?_⟩, fun _ => by kernel_rfl⟩ ?_
                              rotate_left
                              · intro w; go_simp; try with_reducible rfl
                              (try simp only [Act.put, List.setIfInBounds_toArray, List.set_cons_zero, List.set_cons_succ])
                              refine takeIn (i := 14) (v := undef) rfl rfl (by kernel_rfl) (by kernel_rfl) (by kernel_rfl) (fun _ _ _ h => h) ⟨Or.inr ⟨by kernel_rfl, rfl⟩, fun _ => by kernel_rfl⟩ ?_
                              (try simp only [Act.put, List.setIfInBounds_toArray, List.set_cons_zero, List.set_cons_succ])
                              refine takeIn (i := 15) (v := undef) rfl rfl (by kernel_rfl) (by kernel_rfl) (by kernel_rfl) (fun _ _ _ h => h) ⟨Or.inr ⟨by kernel_rfl, rfl⟩, fun _ => by kernel_rfl⟩ ?_
                              (try simp only [Act.put, List.setIfInBounds_toArray, List.set_cons_zero, List.set_cons_succ])
                              refine takeIn (i := 16) (v := undef) rfl rfl (by kernel_rfl) (by kernel_rfl) (by kernel_rfl) (fun _ _ _ h => h) ⟨Or.inr ⟨by kernel_rfl, rfl⟩, fun _ => by kernel_rfl⟩ ?_
                              (try simp only [Act.put, List.setIfInBounds_toArray, List.set_cons_zero, List.set_cons_succ])
                              refine takeIn (i := 17) (v := undef) rfl rfl (by kernel_rfl) (by kernel_rfl) (by kernel_rfl) (fun _ _ _ h => h) ⟨Or.inr ⟨by kernel_rfl, rfl⟩, fun _ => by kernel_rfl⟩ ?_
                              (try simp only [Act.put, List.setIfInBounds_toArray, List.set_cons_zero, List.set_cons_succ])
                              refine takeIn (i := 18) (v := ?_) rfl rfl (by kernel_rfl) (by kernel_rfl) (by kernel_rfl) (fun _ _ _ h => h) ⟨Or.inl ⟨by kernel_rfl, ?_⟩, fun _ => by kernel_rfl⟩ ?_
                              rotate_left
                              · intro w; go_simp; try with_reducible rfl
                              (try simp only [Act.put, List.setIfInBounds_toArray, List.set_cons_zero, List.set_cons_succ])
                              refine wpAnyIn_done (by kernel_rfl) ?_ _
                              gi_wp2
                              go_roundw
                              case rel => exact ⟨j + 1, d + 1, Lib.hid (by have := HJ.out; simp; omega), by omega, by omega, rfl, by rw [HO.out]; exact hJ7, hS7⟩
                              case measure => simp [intOf]; omega
                            exact AllReadyIn.nil
                          refine consIn rfl (fun K hK => ?_) ?_
                          · go_simp
                            refine hK _ _ ?_
                            clear hK K
                            (try simp only [Act.put, List.setIfInBounds_toArray, List.set_cons_zero, List.set_cons_succ])
                            refine wpAnyIn_ready (rs := [9]) (by kernel_rfl) (by simp) ?_
                            refine consIn rfl (fun K hK => ?_) ?_
                            · go_simp
                              refine (callsIn_wide.2 (HR.out _ _ (HLV _ hS6))).mono ?_
                              rintro e w7 ⟨rfl, hb7⟩
                              have hJ7 := hJ.belowZ hJ6 hb7
                              have hS7 := hS6.below hcb hgu hb7
                              have B57 := B56.below hb7
                              obtain ⟨_, _, _, _, _⟩ := B57.two
                              clear hb7
                              refine hK _ _ ?_
                              clear hK K
                              (try simp only [Act.put, List.setIfInBounds_toArray, List.set_cons_zero, List.set_cons_succ])
                              refine takeIn (i := 11) (v := ?_) rfl rfl (by kernel_rfl) (by kernel_rfl) (by kernel_rfl) (fun _ _ _ h => h) ⟨Or.inl ⟨by kernel_rfl, ?_⟩, fun _ => by kernel_rfl⟩ ?_
                              rotate_left
                              · intro w; go_simp; try with_reducible rfl
                              (try simp only [Act.put, List.setIfInBounds_toArray, List.set_cons_zero, List.set_cons_succ])
                              refine takeIn (i := 12) (v := ?_) rfl rfl (by kernel_rfl) (by kernel_rfl) (by kernel_rfl) (fun _ _ _ h => h) ⟨Or.inl ⟨by kernel_rfl, ?_⟩, fun _ => by kernel_rfl⟩ ?_
                              rotate_left
                              · intro w; go_simp; try with_reducible rfl
                              (try simp only [Act.put, List.setIfInBounds_toArray, List.set_cons_zero, List.set_cons_succ])
                              refine takeIn (i := 13) (v := ?_) rfl rfl (by kernel_rfl) (by kernel_rfl) (by kernel_rfl) (fun _ _ _ h => h) ⟨Or.inl ⟨by kernel_rfl, ?_⟩, fun _ => by kernel_rfl⟩ ?_
                              rotate_left
                              · intro w; go_simp; try with_reducible rfl
                              (try simp only [Act.put, List.setIfInBounds_toArray, List.set_cons_zero, List.set_cons_succ])
                              refine takeIn (i := 14) (v := undef) rfl rfl (by kernel_rfl) (by kernel_rfl) (by kernel_rfl) (fun _ _ _ h => h) ⟨Or.inr ⟨by kernel_rfl, rfl⟩, fun _ => by kernel_rfl⟩ ?_
                              (try simp only [Act.put, List.setIfInBounds_toArray, List.set_cons_zero, List.set_cons_succ])
                              refine takeIn (i := 15) (v := undef) rfl rfl (by kernel_rfl) (by kernel_rfl) (by kernel_rfl) (fun _ _ _ h => h) ⟨Or.inr ⟨by kernel_rfl, rfl⟩, fun _ => by kernel_rfl⟩ ?_
                              (try simp only [Act.put, List.setIfInBounds_toArray, List.set_cons_zero, List.set_cons_succ])
                              refine takeIn (i := 16) (v := undef) rfl rfl (by kernel_rfl) (by kernel_rfl) (by kernel_rfl) (fun _ _ _ h => h) ⟨Or.inr ⟨by kernel_rfl, rfl⟩, fun _ => by kernel_rfl⟩ ?_
                              (try simp only [Act.put, List.setIfInBounds_toArray, List.set_cons_zero, List.set_cons_succ])
                              refine takeIn (i := 17) (v := undef) rfl rfl (by kernel_rfl) (by kernel_rfl) (by kernel_rfl) (fun _ _ _ h => h) ⟨Or.inr ⟨by kernel_rfl, rfl⟩, fun _ => by kernel_rfl⟩ ?_
                              (try simp only [Act.put, List.setIfInBounds_toArray, List.set_cons_zero, List.set_cons_succ])
                              refine takeIn (i := 18) (v := ?_) rfl rfl (by kernel_rfl) (by kernel_rfl) (by kernel_rfl) (fun _ _ _ h => h) ⟨Or.inl ⟨by kernel_rfl, ?_⟩, fun _ => by kernel_rfl⟩ ?_
                              rotate_left
                              · intro w; go_simp; try with_reducible rfl
                              (try simp only [Act.put, List.setIfInBounds_toArray, List.set_cons_zero, List.set_cons_succ])
                              refine wpAnyIn_done (by kernel_rfl) ?_ _
                              gi_wp2
                              go_roundw
                              case rel => exact ⟨j + 1, d + 1, Lib.hid (by have := HJ.out; simp; omega), by omega, by omega, rfl, by rw [HO.out]; exact hJ7, hS7⟩
                              case measure => simp [intOf]; omega
                            exact AllReadyIn.nil
                          exact AllReadyIn.nil
                        refine consIn rfl (fun K hK => ?_) ?_
                        · go_simp
                          refine hK _ _ ?_
                          clear hK K
                          (try simp only [Act.put, List.setIfInBounds_toArray, List.set_cons_zero, List.set_cons_succ])
                          refine wpAnyIn_ready (rs := [6]) (by kernel_rfl) (by simp) ?_
                          refine consIn rfl (fun K hK => ?_) ?_
                          · go_simp
                            refine hK _ _ ?_
                            clear hK K
                            (try simp only [Act.put, List.setIfInBounds_toArray, List.set_cons_zero, List.set_cons_succ])
                            refine wpAnyIn_ready (rs := [9]) (by kernel_rfl) (by simp) ?_
                            refine consIn rfl (fun K hK => ?_) ?_
                            · go_simp
                              refine (callsIn_wide.2 (HR.out _ _ (HLV _ hS6))).mono ?_
                              rintro e w7 ⟨rfl, hb7⟩
                              have hJ7 := hJ.belowZ hJ6 hb7
                              have hS7 := hS6.below hcb hgu hb7
                              have B57 := B56.below hb7
                              obtain ⟨_, _, _, _, _⟩ := B57.two
                              clear hb7
                              refine hK _ _ ?_
                              clear hK K
                              (try simp only [Act.put, List.setIfInBounds_toArray, List.set_cons_zero, List.set_cons_succ])
                              refine takeIn (i := 11) (v := ?_) rfl rfl (by kernel_rfl) (by kernel_rfl) (by kernel_rfl) (fun _ _ _ h => h) ⟨Or.inl ⟨by kernel_rfl, ?_⟩, fun _ => by kernel_rfl⟩ ?_
                              rotate_left
                              · intro w; go_simp; try with_reducible rfl
                              (try simp only [Act.put, List.setIfInBounds_toArray, List.set_cons_zero, List.set_cons_succ])
                              refine takeIn (i := 12) (v := ?_) rfl rfl (by kernel_rfl) (by kernel_rfl) (by kernel_rfl) (fun _ _ _ h => h) ⟨Or.inl ⟨by kernel_rfl, ?_⟩, fun _ => by kernel_rfl⟩ ?_
                              rotate_left
                              · intro w; go_simp; try with_reducible rfl
                              (try simp only [Act.put, List.setIfInBounds_toArray, List.set_cons_zero, List.set_cons_succ])
                              refine takeIn (i := 13) (v := ?_) rfl rfl (by kernel_rfl) (by kernel_rfl) (by kernel_rfl) (fun _ _ _ h => h) ⟨Or.inl ⟨by kernel_rfl, ?_⟩, fun _ => by kernel_rfl⟩ ?_
                              rotate_left
                              · intro w; go_simp; try with_reducible rfl
                              (try simp only [Act.put, List.setIfInBounds_toArray, List.set_cons_zero, List.set_cons_succ])
                              refine takeIn (i := 14) (v := undef) rfl rfl (by kernel_rfl) (by kernel_rfl) (by kernel_rfl) (fun _ _ _ h => h) ⟨Or.inr ⟨by kernel_rfl, rfl⟩, fun _ => by kernel_rfl⟩ ?_
                              (try simp only [Act.put, List.setIfInBounds_toArray, List.set_cons_zero, List.set_cons_succ])
                              refine takeIn (i := 15) (v := undef) rfl rfl (by kernel_rfl) (by kernel_rfl) (by kernel_rfl) (fun _ _ _ h => h) ⟨Or.inr ⟨by kernel_rfl, rfl⟩, fun _ => by kernel_rfl⟩ ?_
                              (try simp only [Act.put, List.setIfInBounds_toArray, List.set_cons_zero, List.set_cons_succ])
                              refine takeIn (i := 16) (v := undef) rfl rfl (by kernel_rfl) (by kernel_rfl) (by kernel_rfl) (fun _ _ _ h => h) ⟨Or.inr ⟨by kernel_rfl, rfl⟩, fun _ => by kernel_rfl⟩ ?_
                              (try simp only [Act.put, List.setIfInBounds_toArray, List.set_cons_zero, List.set_cons_succ])
                              refine takeIn (i := 17) (v := undef) rfl rfl (by kernel_rfl) (by kernel_rfl) (by kernel_rfl) (fun _ _ _ h => h) ⟨Or.inr ⟨by kernel_rfl, rfl⟩, fun _ => by kernel_rfl⟩ ?_
                              (try simp only [Act.put, List.setIfInBounds_toArray, List.set_cons_zero, List.set_cons_succ])
                              refine takeIn (i := 18) (v := ?_) rfl rfl (by kernel_rfl) (by kernel_rfl) (by kernel_rfl) (fun _ _ _ h => h) ⟨Or.inl ⟨by kernel_rfl, ?_⟩, fun _ => by kernel_rfl⟩ ?_
                              rotate_left
                              · intro w; go_simp; try with_reducible rfl
                              (try simp only [Act.put, List.setIfInBounds_toArray, List.set_cons_zero, List.set_cons_succ])
                              refine wpAnyIn_done (by kernel_rfl) ?_ _
                              gi_wp2
                              go_roundw
                              case rel => exact ⟨j + 1, d + 1, Lib.hid (by have := HJ.out; simp; omega), by omega, by omega, rfl, by rw [HO.out]; exact hJ7, hS7⟩
                              case measure => simp [intOf]; omega
                            exact AllReadyIn.nil
                          exact AllReadyIn.nil
                        exact AllReadyIn.nil
                      exact AllReadyIn.nil
                    exact AllReadyIn.nil
                · have HO : Hid (rowL n 0 (j + 1) = rowL n 0 j) := Lib.hid (rowL_no HJ.out (by
                    unfold okP
                    rw [hr', Bool.and_eq_false_iff]
                    exact .inr (decide_eq_false fun h => by injection h with ha hb; exact hx ha)))
                  clear hp hr hr'
                  refine wpIn_region_any (by kernel_rfl) ?_
                  refine takeIn (i := 0) (v := ?_) rfl rfl (by kernel_rfl) (by kernel_rfl) (by kernel_rfl) (fun _ _ _ h => h) ⟨Or.inl ⟨by kernel_rfl, ?_⟩, fun _ => by kernel_rfl⟩ ?_
                  rotate_left
                  · intro w; go_simp; try with_reducible rfl
                  (try simp only [Act.put, List.setIfInBounds_toArray, List.set_cons_zero, List.set_cons_succ])
                  refine takeIn (i := 2) (v := ?_) rfl rfl (by kernel_rfl) (by kernel_rfl) (by kernel_rfl) (fun _ _ _ h => h) ⟨Or.inl ⟨by kernel_rfl, ?_⟩, fun _ => by kernel_rfl⟩ ?_
                  rotate_left
                  · intro w; go_simp; try with_reducible rfl
                  (try simp only [Act.put, List.setIfInBounds_toArray, List.set_cons_zero, List.set_cons_succ])
                  refine takeIn (i := 3) (v := ?_) rfl rfl (by kernel_rfl) (by kernel_rfl) (by kernel_rfl) (fun _ _ _ h => h) ⟨Or.inl ⟨by kernel_rfl, ?_⟩, fun _ => by kernel_rfl⟩ ?_
                  rotate_left
                  · intro w; go_simp; try with_reducible rfl
                  (try simp only [Act.put, List.setIfInBounds_toArray, List.set_cons_zero, List.set_cons_succ])
                  refine wpAnyIn_ready (rs := [1]) (by kernel_rfl) (by simp) ?_
                  refine consIn rfl (fun K hK => ?_) ?_
                  · go_simp
                    refine hK _ _ ?_
                    clear hK K
                    (try simp only [Act.put, List.setIfInBounds_toArray, List.set_cons_zero, List.set_cons_succ])
                    refine wpAnyIn_ready (rs := [4]) (by kernel_rfl) (by simp) ?_
                    refine consIn rfl (fun K hK => ?_) ?_
                    · go_simp
                      refine (callsIn_wide.2 (HP.out _)).mono ?_
                      rintro e w6 ⟨rfl, hb6⟩
                      have hJ6 := hJ.belowZ hJz hb6
                      have hS6 := hSz.below hcb hgu hb6
                      have BR6 := BRz.below hb6
                      have B56 := B5z.below hb6
                      obtain ⟨_, _, _, _, _⟩ := BR6.two
                      obtain ⟨_, _, _, _, _⟩ := B56.two
                      clear hb6
                      refine hK _ _ ?_
                      clear hK K
                      (try simp only [Act.put, List.setIfInBounds_toArray, List.set_cons_zero, List.set_cons_succ])
                      refine takeIn (i := 5) (v := ?_) rfl rfl (by kernel_rfl) (by kernel_rfl) (by kernel_rfl) (fun _ _ _ h => h) ⟨Or.inl ⟨by kernel_rfl, ?_⟩, fun _ => by kernel_rfl⟩ ?_
                      rotate_left
                      · intro w; go_simp; try with_reducible rfl
                      (try simp only [Act.put, List.setIfInBounds_toArray, List.set_cons_zero, List.set_cons_succ])
                      refine takeIn (i := 7) (v := ?_) rfl rfl (by kernel_rfl) (by kernel_rfl) (by kernel_rfl) (fun _ _ _ h => h) ⟨Or.inl ⟨by kernel_rfl, ?_⟩, fun _ => by kernel_rfl⟩ ?_
                      rotate_left
                      · intro w; go_simp; try with_reducible rfl
                      (try simp only [Act.put, List.setIfInBounds_toArray, List.set_cons_zero, List.set_cons_succ])
                      refine takeIn (i := 8) (v := ?_) rfl rfl (by kernel_rfl) (by kernel_rfl) (by kernel_rfl) (fun _ _ _ h => h) ⟨Or.inl ⟨by kernel_rfl, ?_⟩, fun _ => by kernel_rfl⟩ ?_
                      rotate_left
                      · intro w; go_simp; try with_reducible rfl
                      (try simp only [Act.put, List.setIfInBounds_toArray, List.set_cons_zero, List.set_cons_succ])
                      refine wpAnyIn_ready (rs := [6, 10]) (by kernel_rfl) (by simp) ?_
                      refine consIn rfl (fun K hK => ?_) ?_
                      · go_simp
                        refine hK _ _ ?_
                        clear hK K
                        (try simp only [Act.put, List.setIfInBounds_toArray, List.set_cons_zero, List.set_cons_succ])
                        refine wpAnyIn_ready (rs := [9, 10]) (by kernel_rfl) (by simp) ?_
                        refine consIn rfl (fun K hK => ?_) ?_
                        · go_simp
                          refine (callsIn_wide.2 (HR.out _ _ (HLV _ hS6))).mono ?_
                          rintro e w7 ⟨rfl, hb7⟩
                          have hJ7 := hJ.belowZ hJ6 hb7
                          have hS7 := hS6.below hcb hgu hb7
                          have B57 := B56.below hb7
                          obtain ⟨_, _, _, _, _⟩ := B57.two
                          clear hb7
                          refine hK _ _ ?_
                          clear hK K
                          (try simp only [Act.put, List.setIfInBounds_toArray, List.set_cons_zero, List.set_cons_succ])
                          refine wpAnyIn_ready (rs := [10]) (by kernel_rfl) (by simp) ?_
                          refine consIn rfl (fun K hK => ?_) ?_
                          · go_simp
                            refine hK _ _ ?_
                            clear hK K
                            (try simp only [Act.put, List.setIfInBounds_toArray, List.set_cons_zero, List.set_cons_succ])
                            refine takeIn (i := 11) (v := ?_) rfl rfl (by kernel_rfl) (by kernel_rfl) (by kernel_rfl) (fun _ _ _ h => h) ⟨Or.inl ⟨by kernel_rfl, ?_⟩, fun _ => by kernel_rfl⟩ ?_
                            rotate_left
                            · intro w; go_simp; try with_reducible rfl
                            (try simp only [Act.put, List.setIfInBounds_toArray, List.set_cons_zero, List.set_cons_succ])
                            refine takeIn (i := 12) (v := ?_) rfl rfl (by kernel_rfl) (by kernel_rfl) (by kernel_rfl) (fun _ _ _ h => h) ⟨Or.inl ⟨by kernel_rfl, ?_⟩, fun _ => by kernel_rfl⟩ ?_
                            rotate_left
                            · intro w; go_simp; try with_reducible rfl
                            (try simp only [Act.put, List.setIfInBounds_toArray, List.set_cons_zero, List.set_cons_succ])
                            refine takeIn (i := 13) (v := ?_) rfl rfl (by kernel_rfl) (by kernel_rfl) (by kernel_rfl) (fun _ _ _ h => h) ⟨Or.inl ⟨by kernel_rfl, ?_⟩, fun _ => by kernel_rfl⟩ ?_
                            rotate_left
                            · intro w; go_simp; try with_reducible rfl
                            (try simp only [Act.put, List.setIfInBounds_toArray, List.set_cons_zero, List.set_cons_succ])
                            refine takeIn (i := 14) (v := undef) rfl rfl (by kernel_rfl) (by kernel_rfl) (by kernel_rfl) (fun _ _ _ h => h) ⟨Or.inr ⟨by kernel_rfl, rfl⟩, fun _ => by kernel_rfl⟩ ?_
                            (try simp only [Act.put, List.setIfInBounds_toArray, List.set_cons_zero, List.set_cons_succ])
                            refine takeIn (i := 15) (v := undef) rfl rfl (by kernel_rfl) (by kernel_rfl) (by kernel_rfl) (fun _ _ _ h => h) ⟨Or.inr ⟨by kernel_rfl, rfl⟩, fun _ => by kernel_rfl⟩ ?_
                            (try simp only [Act.put, List.setIfInBounds_toArray, List.set_cons_zero, List.set_cons_succ])
                            refine takeIn (i := 16) (v := undef) rfl rfl (by kernel_rfl) (by kernel_rfl) (by kernel_rfl) (fun _ _ _ h => h) ⟨Or.inr ⟨by kernel_rfl, rfl⟩, fun _ => by kernel_rfl⟩ ?_
                            (try simp only [Act.put, List.setIfInBounds_toArray, List.set_cons_zero, List.set_cons_succ])
                            refine takeIn (i := 17) (v := undef) rfl rfl (by kernel_rfl) (by kernel_rfl) (by kernel_rfl) (fun _ _ _ h => h) ⟨Or.inr ⟨by kernel_rfl, rfl⟩, fun _ => by kernel_rfl⟩ ?_
                            (try simp only [Act.put, List.setIfInBounds_toArray, List.set_cons_zero, List.set_cons_succ])
                            refine takeIn (i := 18) (v := ?_) rfl rfl (by kernel_rfl) (by kernel_rfl) (by kernel_rfl) (fun _ _ _ h => h) ⟨Or.inl ⟨by kernel_rfl, ?_⟩, fun _ => by kernel_rfl⟩ ?_
                            rotate_left
                            · intro w; go_simp; try with_reducible rfl
                            (try simp only [Act.put, List.setIfInBounds_toArray, List.set_cons_zero, List.set_cons_succ])
                            refine wpAnyIn_done (by kernel_rfl) ?_ _
                            gi_wp2
                            go_roundw
                            case rel => exact ⟨j + 1, d + 1, Lib.hid (by have := HJ.out; simp; omega), by omega, by omega, rfl, by rw [HO.out]; exact hJ7, hS7⟩
                            case measure => simp [intOf]; omega
                          exact AllReadyIn.nil
                        refine consIn rfl (fun K hK => ?_) ?_
                        · go_simp
                          refine hK _ _ ?_
                          clear hK K
                          (try simp only [Act.put, List.setIfInBounds_toArray, List.set_cons_zero, List.set_cons_succ])
                          refine wpAnyIn_ready (rs := [9]) (by kernel_rfl) (by simp) ?_
                          refine consIn rfl (fun K hK => ?_) ?_
                          · go_simp
                            refine (callsIn_wide.2 (HR.out _ _ (HLV _ hS6))).mono ?_
                            rintro e w7 ⟨rfl, hb7⟩
                            have hJ7 := hJ.belowZ hJ6 hb7
                            have hS7 := hS6.below hcb hgu hb7
                            have B57 := B56.below hb7
                            obtain ⟨_, _, _, _, _⟩ := B57.two
                            clear hb7
                            refine hK _ _ ?_
                            clear hK K
                            (try simp only [Act.put, List.setIfInBounds_toArray, List.set_cons_zero, List.set_cons_succ])
                            refine takeIn (i := 11) (v := ?_) rfl rfl (by kernel_rfl) (by kernel_rfl) (by kernel_rfl) (fun _ _ _ h => h) ⟨Or.inl ⟨by kernel_rfl, ?_⟩, fun _ => by kernel_rfl⟩ ?_
                            rotate_left
                            · intro w; go_simp; try with_reducible rfl
                            (try simp only [Act.put, List.setIfInBounds_toArray, List.set_cons_zero, List.set_cons_succ])
                            refine takeIn (i := 12) (v := ?_) rfl rfl (by kernel_rfl) (by kernel_rfl) (by kernel_rfl) (fun _ _ _ h => h) ⟨Or.inl ⟨by kernel_rfl, ?_⟩, fun _ => by kernel_rfl⟩ ?_
                            rotate_left
                            · intro w; go_simp; try with_reducible rfl
                            (try simp only [Act.put, List.setIfInBounds_toArray, List.set_cons_zero, List.set_cons_succ])
                            refine takeIn (i := 13) (v := ?_) rfl rfl (by kernel_rfl) (by kernel_rfl) (by kernel_rfl) (fun _ _ _ h => h) ⟨Or.inl ⟨by kernel_rfl, ?_⟩, fun _ => by kernel_rfl⟩ ?_
                            rotate_left
                            · intro w; go_simp; try with_reducible rfl
                            (try simp only [Act.put, List.setIfInBounds_toArray, List.set_cons_zero, List.set_cons_succ])
                            refine takeIn (i := 14) (v := undef) rfl rfl (by kernel_rfl) (by kernel_rfl) (by kernel_rfl) (fun _ _ _ h => h) ⟨Or.inr ⟨by kernel_rfl, rfl⟩, fun _ => by kernel_rfl⟩ ?_
                            (try simp only [Act.put, List.setIfInBounds_toArray, List.set_cons_zero, List.set_cons_succ])
                            refine takeIn (i := 15) (v := undef) rfl rfl (by kernel_rfl) (by kernel_rfl) (by kernel_rfl) (fun _ _ _ h => h) ⟨Or.inr ⟨by kernel_rfl, rfl⟩, fun _ => by kernel_rfl⟩ ?_
                            (try simp only [Act.put, List.setIfInBounds_toArray, List.set_cons_zero, List.set_cons_succ])
                            refine takeIn (i := 16) (v := undef) rfl rfl (by kernel_rfl) (by kernel_rfl) (by kernel_rfl) (fun _ _ _ h => h) ⟨Or.inr ⟨by kernel_rfl, rfl⟩, fun _ => by kernel_rfl⟩ ?_
                            (try simp only [Act.put, List.setIfInBounds_toArray, List.set_cons_zero, List.set_cons_succ])
                            refine takeIn (i := 17) (v := undef) rfl rfl (by kernel_rfl) (by kernel_rfl) (by kernel_rfl) (fun _ _ _ h => h) ⟨Or.inr ⟨by kernel_rfl, rfl⟩, fun _ => by kernel_rfl⟩ ?_
                            (try simp only [Act.put, List.setIfInBounds_toArray, List.set_cons_zero, List.set_cons_succ])
                            refine takeIn (i := 18) (v := ?_) rfl rfl (by kernel_rfl) (by kernel_rfl) (by kernel_rfl) (fun _ _ _ h => h) ⟨Or.inl ⟨by kernel_rfl, ?_⟩, fun _ => by kernel_rfl⟩ ?_
                            rotate_left
                            · intro w; go_simp; try with_reducible rfl
                            (try simp only [Act.put, List.setIfInBounds_toArray, List.set_cons_zero, List.set_cons_succ])
                            refine wpAnyIn_done (by kernel_rfl) ?_ _
                            gi_wp2
                            go_roundw
                            case rel => exact ⟨j + 1, d + 1, Lib.hid (by have := HJ.out; simp; omega), by omega, by omega, rfl, by rw [HO.out]; exact hJ7, hS7⟩
                            case measure => simp [intOf]; omega
                          exact AllReadyIn.nil
                        exact AllReadyIn.nil
                      refine consIn rfl (fun K hK => ?_) ?_
                      · go_simp
                        refine hK _ _ ?_
                        clear hK K
                        (try simp only [Act.put, List.setIfInBounds_toArray, List.set_cons_zero, List.set_cons_succ])
                        refine wpAnyIn_ready (rs := [6]) (by kernel_rfl) (by simp) ?_
                        refine consIn rfl (fun K hK => ?_) ?_
                        · go_simp
                          refine hK _ _ ?_
                          clear hK K
                          (try simp only [Act.put, List.setIfInBounds_toArray, List.set_cons_zero, List.set_cons_succ])
                          refine wpAnyIn_ready (rs := [9]) (by kernel_rfl) (by simp) ?_
                          refine consIn rfl (fun K hK => ?_) ?_
                          · go_simp
                            refine (callsIn_wide.2 (HR.out _ _ (HLV _ hS6))).mono ?_
                            rintro e w7 ⟨rfl, hb7⟩
                            have hJ7 := hJ.belowZ hJ6 hb7
                            have hS7 := hS6.below hcb hgu hb7
                            have B57 := B56.below hb7
                            obtain ⟨_, _, _, _, _⟩ := B57.two
                            clear hb7
                            refine hK _ _ ?_
                            clear hK K
                            (try simp only [Act.put, List.setIfInBounds_toArray, List.set_cons_zero, List.set_cons_succ])
                            refine takeIn (i := 11) (v := ?_) rfl rfl (by kernel_rfl) (by kernel_rfl) (by kernel_rfl) (fun _ _ _ h => h) ⟨Or.inl ⟨by kernel_rfl, ?_⟩, fun _ => by kernel_rfl⟩ ?_
                            rotate_left
                            · intro w; go_simp; try with_reducible rfl
                            (try simp only [Act.put, List.setIfInBounds_toArray, List.set_cons_zero, List.set_cons_succ])
                            refine takeIn (i := 12) (v := ?_) rfl rfl (by kernel_rfl) (by kernel_rfl) (by kernel_rfl) (fun _ _ _ h => h) ⟨Or.inl ⟨by kernel_rfl, ?_⟩, fun _ => by kernel_rfl⟩ ?_
                            rotate_left
                            · intro w; go_simp; try with_reducible rfl
                            (try simp only [Act.put, List.setIfInBounds_toArray, List.set_cons_zero, List.set_cons_succ])
                            refine takeIn (i := 13) (v := ?_) rfl rfl (by kernel_rfl) (by kernel_rfl) (by kernel_rfl) (fun _ _ _ h => h) ⟨Or.inl ⟨by kernel_rfl, ?_⟩, fun _ => by kernel_rfl⟩ ?_
                            rotate_left
                            · intro w; go_simp; try with_reducible rfl
                            (try simp only [Act.put, List.setIfInBounds_toArray, List.set_cons_zero, List.set_cons_succ])
                            refine takeIn (i := 14) (v := undef) rfl rfl (by kernel_rfl) (by kernel_rfl) (by kernel_rfl) (fun _ _ _ h => h) ⟨Or.inr ⟨by kernel_rfl, rfl⟩, fun _ => by kernel_rfl⟩ ?_
                            (try simp only [Act.put, List.setIfInBounds_toArray, List.set_cons_zero, List.set_cons_succ])
                            refine takeIn (i := 15) (v := undef) rfl rfl (by kernel_rfl) (by kernel_rfl) (by kernel_rfl) (fun _ _ _ h => h) ⟨Or.inr ⟨by kernel_rfl, rfl⟩, fun _ => by kernel_rfl⟩ ?_
                            (try simp only [Act.put, List.setIfInBounds_toArray, List.set_cons_zero, List.set_cons_succ])
                            refine takeIn (i := 16) (v := undef) rfl rfl (by kernel_rfl) (by kernel_rfl) (by kernel_rfl) (fun _ _ _ h => h) ⟨Or.inr ⟨by kernel_rfl, rfl⟩, fun _ => by kernel_rfl⟩ ?_
                            (try simp only [Act.put, List.setIfInBounds_toArray, List.set_cons_zero, List.set_cons_succ])
                            refine takeIn (i := 17) (v := undef) rfl rfl (by kernel_rfl) (by kernel_rfl) (by kernel_rfl) (fun _ _ _ h => h) ⟨Or.inr ⟨by kernel_rfl, rfl⟩, fun _ => by kernel_rfl⟩ ?_
                            (try simp only [Act.put, List.setIfInBounds_toArray, List.set_cons_zero, List.set_cons_succ])
                            refine takeIn (i := 18) (v := ?_) rfl rfl (by kernel_rfl) (by kernel_rfl) (by kernel_rfl) (fun _ _ _ h => h) ⟨Or.inl ⟨by kernel_rfl, ?_⟩, fun _ => by kernel_rfl⟩ ?_
                            rotate_left
                            · intro w; go_simp; try with_reducible rfl
                            (try simp only [Act.put, List.setIfInBounds_toArray, List.set_cons_zero, List.set_cons_succ])
                            refine wpAnyIn_done (by kernel_rfl) ?_ _
                            gi_wp2
                            go_roundw
                            case rel => exact ⟨j + 1, d + 1, Lib.hid (by have := HJ.out; simp; omega), by omega, by omega, rfl, by rw [HO.out]; exact hJ7, hS7⟩
                            case measure => simp [intOf]; omega
                          exact AllReadyIn.nil
                        exact AllReadyIn.nil
                      exact AllReadyIn.nil
                    exact AllReadyIn.nil
                  exact AllReadyIn.nil
            · have HE : Hid (J (lnL n (k + 1)) wr) := Lib.hid (by
                have := HJ.out
                have := HN.out
                rw [lnL, HC0.out.1]
                rw [show n.toNat = j by omega]
                exact hJd)
              gi_wp2
              go_roundw
              case rel => exact ⟨k + 1, 0 + 1, Lib.hid (by have := HC0.out; simp; omega), by omega, by omega, rfl, HE.out, hS⟩
              case measure => simp [intOf]; omega
        · gi_wp2
          gi_loopw [22] (fun i wx => ∃ (j : Nat) (d : Int), Hid ((j : Int) = d) ∧ 0 ≤ d ∧ d ≤ n ∧ i = (.int .i64 d) ∧ J (lnL n k ++ rowL n c j) wx ∧ Std W wx cb gu) (fun i _ => (n - intOf i).toNat)
          case atStart => exact ⟨0, 0, Lib.hid rfl, by omega, by omega, rfl, by rw [rowL, List.append_nil]; exact hJk, hS⟩
          case round =>
            obtain ⟨j, d, HJ, d0, dn, rfl, hJd, hS⟩ := hrel
            have BR := BW.heapZ hS.2.1 hS.1
            obtain ⟨_, _, _, _, _⟩ := BR.two
            by_cases hld : d < n
            · gi_upto_region 8 with fail
              have B5 : Box (wr.alloc (.cells #[(.int .i64 c), (.int .i64 d)] 101)) wr.heap.size [(.int .i64 c), (.int .i64 d)] := Box.new _ _ _
              have T5 : Below wr.heap.size wr (wr.alloc (.cells #[(.int .i64 c), (.int .i64 d)] 101)) := own_alloc (own_refl _) _
              have hJd := hJ.belowZ hJd T5
              have hS := hS.below hcb hgu T5
              generalize wr.alloc (.cells #[(.int .i64 c), (.int .i64 d)] 101) = w5 at *
              have BR := BW.heapZ hS.2.1 hS.1
              obtain ⟨_, _, _, _, _⟩ := BR.two
              obtain ⟨_, _, _, _, _⟩ := B5.two
              have hJz : J (lnL n k ++ rowL n c j) w5.drew := hJ.belowZ hJd (own_drew (own_refl _))
              have hSz : Std W w5.drew cb gu := hS.below hcb hgu (own_drew (own_refl _))
              have BRz : Box w5.drew cb [(.int .i64 n), .slice (some ⟨gu, ou, none⟩) m cu] := BR.drew
              have B5z : Box w5.drew wr.heap.size [(.int .i64 c), (.int .i64 d)] := B5.drew
              have hmn : Mid n := by unfold Mid; omega
              have hec : Ent c := by unfold Ent; omega
              have hed : Ent d := by unfold Ent; omega
              rcases hp : isP n c d with _ | _
              · have HP := Lib.hid (fun w => isPair_is false n c d hp hmn hec hed w)
                have HO : Hid (rowL n c (j + 1) = rowL n c j) := Lib.hid (rowL_no HJ.out (by unfold okP; rw [hp]; rfl))
                clear hp
                refine wpIn_region_any (by kernel_rfl) ?_
                refine takeIn (i := 0) (v := ?_) rfl rfl (by kernel_rfl) (by kernel_rfl) (by kernel_rfl) (fun _ _ _ h => h) ⟨Or.inl ⟨by kernel_rfl, ?_⟩, fun _ => by kernel_rfl⟩ ?_
                rotate_left
                · intro w; go_simp; try with_reducible rfl
                (try simp only [Act.put, List.setIfInBounds_toArray, List.set_cons_zero, List.set_cons_succ])
                refine takeIn (i := 2) (v := ?_) rfl rfl (by kernel_rfl) (by kernel_rfl) (by kernel_rfl) (fun _ _ _ h => h) ⟨Or.inl ⟨by kernel_rfl, ?_⟩, fun _ => by kernel_rfl⟩ ?_
                rotate_left
                · intro w; go_simp; try with_reducible rfl
                (try simp only [Act.put, List.setIfInBounds_toArray, List.set_cons_zero, List.set_cons_succ])
                refine takeIn (i := 3) (v := ?_) rfl rfl (by kernel_rfl) (by kernel_rfl) (by kernel_rfl) (fun _ _ _ h => h) ⟨Or.inl ⟨by kernel_rfl, ?_⟩, fun _ => by kernel_rfl⟩ ?_
                rotate_left
                · intro w; go_simp; try with_reducible rfl
                (try simp only [Act.put, List.setIfInBounds_toArray, List.set_cons_zero, List.set_cons_succ])
                refine wpAnyIn_ready (rs := [1]) (by kernel_rfl) (by simp) ?_
                refine consIn rfl (fun K hK => ?_) ?_
                · go_simp
                  refine hK _ _ ?_
                  clear hK K
                  (try simp only [Act.put, List.setIfInBounds_toArray, List.set_cons_zero, List.set_cons_succ])
                  refine wpAnyIn_ready (rs := [4]) (by kernel_rfl) (by simp) ?_
                  refine consIn rfl (fun K hK => ?_) ?_
                  · go_simp
                    refine (callsIn_wide.2 (HP.out _)).mono ?_
                    rintro e w6 ⟨rfl, hb6⟩
                    have hJ6 := hJ.belowZ hJz hb6
                    have hS6 := hSz.below hcb hgu hb6
                    have BR6 := BRz.below hb6
                    have B56 := B5z.below hb6
                    obtain ⟨_, _, _, _, _⟩ := BR6.two
                    obtain ⟨_, _, _, _, _⟩ := B56.two
                    clear hb6
                    refine hK _ _ ?_
                    clear hK K
                    (try simp only [Act.put, List.setIfInBounds_toArray, List.set_cons_zero, List.set_cons_succ])
                    refine takeIn (i := 5) (v := ?_) rfl rfl (by kernel_rfl) (by kernel_rfl) (by kernel_rfl) (fun _ _ _ h => h) ⟨Or.inl ⟨by kernel_rfl, ?_⟩, fun _ => by kernel_rfl⟩ ?_
                    rotate_left
                    · intro w; go_simp; try with_reducible rfl
                    (try simp only [Act.put, List.setIfInBounds_toArray, List.set_cons_zero, List.set_cons_succ])
                    refine takeIn (i := 6) (v := undef) rfl rfl (by kernel_rfl) (by kernel_rfl) (by kernel_rfl) (fun _ _ _ h => h) ⟨Or.inr ⟨by kernel_rfl, rfl⟩, fun _ => by kernel_rfl⟩ ?_
                    (try simp only [Act.put, List.setIfInBounds_toArray, List.set_cons_zero, List.set_cons_succ])
                    refine takeIn (i := 7) (v := undef) rfl rfl (by kernel_rfl) (by kernel_rfl) (by kernel_rfl) (fun _ _ _ h => h) ⟨Or.inr ⟨by kernel_rfl, rfl⟩, fun _ => by kernel_rfl⟩ ?_
                    (try simp only [Act.put, List.setIfInBounds_toArray, List.set_cons_zero, List.set_cons_succ])
                    refine takeIn (i := 8) (v := undef) rfl rfl (by kernel_rfl) (by kernel_rfl) (by kernel_rfl) (fun _ _ _ h => h) ⟨Or.inr ⟨by kernel_rfl, rfl⟩, fun _ => by kernel_rfl⟩ ?_
                    (try simp only [Act.put, List.setIfInBounds_toArray, List.set_cons_zero, List.set_cons_succ])
                    refine takeIn (i := 10) (v := undef) rfl rfl (by kernel_rfl) (by kernel_rfl) (by kernel_rfl) (fun _ _ _ h => h) ⟨Or.inr ⟨by kernel_rfl, rfl⟩, fun _ => by kernel_rfl⟩ ?_
                    (try simp only [Act.put, List.setIfInBounds_toArray, List.set_cons_zero, List.set_cons_succ])
                    refine wpAnyIn_ready (rs := [9]) (by kernel_rfl) (by simp) ?_
                    refine consIn rfl (fun K hK => ?_) ?_
                    · go_simp
                      refine hK _ _ ?_
                      clear hK K
                      (try simp only [Act.put, List.setIfInBounds_toArray, List.set_cons_zero, List.set_cons_succ])
                      refine takeIn (i := 11) (v := undef) rfl rfl (by kernel_rfl) (by kernel_rfl) (by kernel_rfl) (fun _ _ _ h => h) ⟨Or.inr ⟨by kernel_rfl, rfl⟩, fun _ => by kernel_rfl⟩ ?_
                      (try simp only [Act.put, List.setIfInBounds_toArray, List.set_cons_zero, List.set_cons_succ])
                      refine takeIn (i := 12) (v := ?_) rfl rfl (by kernel_rfl) (by kernel_rfl) (by kernel_rfl) (fun _ _ _ h => h) ⟨Or.inl ⟨by kernel_rfl, ?_⟩, fun _ => by kernel_rfl⟩ ?_
                      rotate_left
                      · intro w; go_simp; try with_reducible rfl
                      (try simp only [Act.put, List.setIfInBounds_toArray, List.set_cons_zero, List.set_cons_succ])
                      refine takeIn (i := 13) (v := ?_) rfl rfl (by kernel_rfl) (by kernel_rfl) (by kernel_rfl) (fun _ _ _ h => h) ⟨Or.inl ⟨by kernel_rfl, ?_⟩, fun _ => by kernel_rfl⟩ ?_
                      rotate_left
                      · intro w; go_simp; try with_reducible rfl
                      (try simp only [Act.put, List.setIfInBounds_toArray, List.set_cons_zero, List.set_cons_succ])
                      refine takeIn (i := 14) (v := undef) rfl rfl (by kernel_rfl) (by kernel_rfl) (by kernel_rfl) (fun _ _ _ h => h) ⟨Or.inr ⟨by kernel_rfl, rfl⟩, fun _ => by kernel_rfl⟩ ?_
                      (try simp only [Act.put, List.setIfInBounds_toArray, List.set_cons_zero, List.set_cons_succ])
                      refine takeIn (i := 15) (v := undef) rfl rfl (by kernel_rfl) (by kernel_rfl) (by kernel_rfl) (fun _ _ _ h => h) ⟨Or.inr ⟨by kernel_rfl, rfl⟩, fun _ => by kernel_rfl⟩ ?_
                      (try simp only [Act.put, List.setIfInBounds_toArray, List.set_cons_zero, List.set_cons_succ])
                      refine takeIn (i := 16) (v := undef) rfl rfl (by kernel_rfl) (by kernel_rfl) (by kernel_rfl) (fun _ _ _ h => h) ⟨Or.inr ⟨by kernel_rfl, rfl⟩, fun _ => by kernel_rfl⟩ ?_
                      (try simp only [Act.put, List.setIfInBounds_toArray, List.set_cons_zero, List.set_cons_succ])
                      refine takeIn (i := 17) (v := undef) rfl rfl (by kernel_rfl) (by kernel_rfl) (by kernel_rfl) (fun _ _ _ h => h) ⟨Or.inr ⟨by kernel_rfl, rfl⟩, fun _ => by kernel_rfl⟩ ?_
                      (try simp only [Act.put, List.setIfInBounds_toArray, List.set_cons_zero, List.set_cons_succ])
                      refine takeIn (i := 18) (v := ?_) rfl rfl (by kernel_rfl) (by kernel_rfl) (by kernel_rfl) (fun _ _ _ h => h) ⟨Or.inl ⟨by kernel_rfl, ?_⟩, fun _ => by kernel_rfl⟩ ?_
                      rotate_left
                      · intro w; go_simp; try with_reducible rfl
                      (try simp only [Act.put, List.setIfInBounds_toArray, List.set_cons_zero, List.set_cons_succ])
                      refine wpAnyIn_done (by kernel_rfl) ?_ _
                      gi_wp2
                      go_roundw
                      case rel => exact ⟨j + 1, d + 1, Lib.hid (by have := HJ.out; simp; omega), by omega, by omega, rfl, by rw [HO.out]; exact hJ6, hS6⟩
                      case measure => simp [intOf]; omega
                    exact AllReadyIn.nil
                  exact AllReadyIn.nil
                exact AllReadyIn.nil
              · have HP := Lib.hid (fun w => isPair_is true n c d hp hmn hec hed w)
                obtain ⟨⟨x, y⟩, hr⟩ : ∃ r : Int × Int, nrm n (rst c n) (rst d n) = r := ⟨_, rfl⟩
                have HR := Lib.hid (fun lv w hL => normal_any n c d h1 h2 (rst_i64 hec) (rst_i64 hed) (x, y) hr lv w hL)
                simp only at HR
                have HLV : ∀ w', Std W w' cb gu → Lev w' n (.agg #[(.int .i64 n), .slice (some ⟨gu, ou, none⟩) m cu]) := fun w' h => ⟨gu, ou, cu, by rw [HM.out], CW.out.heapZ h.2.2 h.1⟩
                have hr' : nrm n c d = (x, y) := by
                  rw [← hr, rst_emod _ _ h1, rst_emod _ _ h1, Int.emod_eq_of_lt (by omega) (by omega), Int.emod_eq_of_lt d0 hld]
                by_cases hx : x = c
                · rw [hx] at HR hr'
                  by_cases hy : y = d
                  · rw [hy] at HR hr'
                    have HO := Lib.hid (rowL_yes (n := n) (c := c) HJ.out (by unfold okP; rw [hp, hr']; simp))
                    have HPF : Hid ((lnL n k ++ rowL n c j) ++ [(c, d)] <+: ln n) := Lib.hid (by
                      have := part_prefix (n := n) (k := k) (j := j + 1) (by have := HC0.out; have := HN.out; omega) (by have := HJ.out; omega)
                      rw [HC0.out.1, HO.out, ← List.append_assoc] at this
                      exact this)
                    clear hp hr hr' hx hy
                    refine wpIn_region_any (by kernel_rfl) ?_
                    refine takeIn (i := 0) (v := ?_) rfl rfl (by kernel_rfl) (by kernel_rfl) (by kernel_rfl) (fun _ _ _ h => h) ⟨Or.inl ⟨by kernel_rfl, ?_⟩, fun _ => by kernel_rfl⟩ ?_
                    rotate_left
                    · intro w; go_simp; try with_reducible rfl
                    (try simp only [Act.put, List.setIfInBounds_toArray, List.set_cons_zero, List.set_cons_succ])
                    refine takeIn (i := 2) (v := ?_) rfl rfl (by kernel_rfl) (by kernel_rfl) (by kernel_rfl) (fun _ _ _ h => h) ⟨Or.inl ⟨by kernel_rfl, ?_⟩, fun _ => by kernel_rfl⟩ ?_
                    rotate_left
                    · intro w; go_simp; try with_reducible rfl
                    (try simp only [Act.put, List.setIfInBounds_toArray, List.set_cons_zero, List.set_cons_succ])
                    refine takeIn (i := 3) (v := ?_) rfl rfl (by kernel_rfl) (by kernel_rfl) (by kernel_rfl) (fun _ _ _ h => h) ⟨Or.inl ⟨by kernel_rfl, ?_⟩, fun _ => by kernel_rfl⟩ ?_
                    rotate_left
                    · intro w; go_simp; try with_reducible rfl
                    (try simp only [Act.put, List.setIfInBounds_toArray, List.set_cons_zero, List.set_cons_succ])
                    refine wpAnyIn_ready (rs := [1]) (by kernel_rfl) (by simp) ?_
                    refine consIn rfl (fun K hK => ?_) ?_
                    · go_simp
                      refine hK _ _ ?_
                      clear hK K
                      (try simp only [Act.put, List.setIfInBounds_toArray, List.set_cons_zero, List.set_cons_succ])
                      refine wpAnyIn_ready (rs := [4]) (by kernel_rfl) (by simp) ?_
                      refine consIn rfl (fun K hK => ?_) ?_
                      · go_simp
                        refine (callsIn_wide.2 (HP.out _)).mono ?_
                        rintro e w6 ⟨rfl, hb6⟩
                        have hJ6 := hJ.belowZ hJz hb6
                        have hS6 := hSz.below hcb hgu hb6
                        have BR6 := BRz.below hb6
                        have B56 := B5z.below hb6
                        obtain ⟨_, _, _, _, _⟩ := BR6.two
                        obtain ⟨_, _, _, _, _⟩ := B56.two
                        clear hb6
                        refine hK _ _ ?_
                        clear hK K
                        (try simp only [Act.put, List.setIfInBounds_toArray, List.set_cons_zero, List.set_cons_succ])
                        refine takeIn (i := 5) (v := ?_) rfl rfl (by kernel_rfl) (by kernel_rfl) (by kernel_rfl) (fun _ _ _ h => h) ⟨Or.inl ⟨by kernel_rfl, ?_⟩, fun _ => by kernel_rfl⟩ ?_
                        rotate_left
                        · intro w; go_simp; try with_reducible rfl
                        (try simp only [Act.put, List.setIfInBounds_toArray, List.set_cons_zero, List.set_cons_succ])
                        refine takeIn (i := 7) (v := ?_) rfl rfl (by kernel_rfl) (by kernel_rfl) (by kernel_rfl) (fun _ _ _ h => h) ⟨Or.inl ⟨by kernel_rfl, ?_⟩, fun _ => by kernel_rfl⟩ ?_
                        rotate_left
                        · intro w; go_simp; try with_reducible rfl
                        (try simp only [Act.put, List.setIfInBounds_toArray, List.set_cons_zero, List.set_cons_succ])
                        refine takeIn (i := 8) (v := ?_) rfl rfl (by kernel_rfl) (by kernel_rfl) (by kernel_rfl) (fun _ _ _ h => h) ⟨Or.inl ⟨by kernel_rfl, ?_⟩, fun _ => by kernel_rfl⟩ ?_
                        rotate_left
                        · intro w; go_simp; try with_reducible rfl
                        (try simp only [Act.put, List.setIfInBounds_toArray, List.set_cons_zero, List.set_cons_succ])
                        refine wpAnyIn_ready (rs := [6, 10]) (by kernel_rfl) (by simp) ?_
                        refine consIn rfl (fun K hK => ?_) ?_
                        · go_simp
                          refine hK _ _ ?_
                          clear hK K
                          (try simp only [Act.put, List.setIfInBounds_toArray, List.set_cons_zero, List.set_cons_succ])
                          refine wpAnyIn_ready (rs := [9, 10]) (by kernel_rfl) (by simp) ?_
                          refine consIn rfl (fun K hK => ?_) ?_
                          · go_simp
                            refine (callsIn_wide.2 (HR.out _ _ (HLV _ hS6))).mono ?_
                            rintro e w7 ⟨rfl, hb7⟩
                            have hJ7 := hJ.belowZ hJ6 hb7
                            have hS7 := hS6.below hcb hgu hb7
                            have B57 := B56.below hb7
                            obtain ⟨_, _, _, _, _⟩ := B57.two
                            clear hb7
                            obtain ⟨fn, tmps, assign, body, hyl, hRd⟩ := hY _ _ _ hJ7 hS7.1 HPF.out
                            simp only [encP] at hyl
                            refine hK _ _ ?_
                            clear hK K
                            (try simp only [Act.put, List.setIfInBounds_toArray, List.set_cons_zero, List.set_cons_succ])
                            refine wpAnyIn_ready (rs := [10]) (by kernel_rfl) (by simp) ?_
                            refine consIn rfl (fun K hK => ?_) ?_
                            · go_simp
                              refine hK _ _ ?_
                              clear hK K
                              (try simp only [Act.put, List.setIfInBounds_toArray, List.set_cons_zero, List.set_cons_succ])
                              refine takeIn (i := 11) (v := ?_) rfl rfl (by kernel_rfl) (by kernel_rfl) (by kernel_rfl) (fun _ _ _ h => h) ⟨Or.inl ⟨by kernel_rfl, ?_⟩, fun _ => by kernel_rfl⟩ ?_
                              rotate_left
                              · intro w; go_simp; try with_reducible rfl
                              (try simp only [Act.put, List.setIfInBounds_toArray, List.set_cons_zero, List.set_cons_succ])
                              refine takeIn (i := 12) (v := ?_) rfl rfl (by kernel_rfl) (by kernel_rfl) (by kernel_rfl) (fun _ _ _ h => h) ⟨Or.inl ⟨by kernel_rfl, ?_⟩, fun _ => by kernel_rfl⟩ ?_
                              rotate_left
                              · intro w; go_simp; try with_reducible rfl
                              (try simp only [Act.put, List.setIfInBounds_toArray, List.set_cons_zero, List.set_cons_succ])
                              refine takeIn (i := 13) (v := ?_) rfl rfl (by kernel_rfl) (by kernel_rfl) (by kernel_rfl) (fun _ _ _ h => h) ⟨Or.inl ⟨by kernel_rfl, ?_⟩, fun _ => by kernel_rfl⟩ ?_
                              rotate_left
                              · intro w; go_simp; try with_reducible rfl
                              (try simp only [Act.put, List.setIfInBounds_toArray, List.set_cons_zero, List.set_cons_succ])
                              refine takeIn (i := 14) (v := ?_) rfl rfl (by kernel_rfl) (by kernel_rfl) (by kernel_rfl) (fun _ _ _ h => h) ⟨Or.inl ⟨by kernel_rfl, ?_⟩, fun _ => by kernel_rfl⟩ ?_
                              rotate_left
                              · intro w; go_simp; try with_reducible rfl
                              (try simp only [Act.put, List.setIfInBounds_toArray, List.set_cons_zero, List.set_cons_succ])
                              refine wpAnyIn_ready (rs := [15]) (by kernel_rfl) (by simp) ?_
                              refine consIn rfl (fun K hK => ?_) ?_
                              · go_simp
                                refine hK _ _ ?_
                                clear hK K
                                (try simp only [Act.put, List.setIfInBounds_toArray, List.set_cons_zero, List.set_cons_succ])
                                refine wpAnyIn_ready (rs := [16]) (by kernel_rfl) (by simp) ?_
                                refine consIn rfl (fun K hK => ?_) ?_
                                · go_simp
                                  refine hRd.mono ?_
                                  intro e w8 h8
                                  obtain ⟨b, rfl, hb8⟩ : ∃ b : Bool, e = .returned (.bool b) ∧ ((b = true ∧ J ((lnL n k ++ rowL n c j) ++ [(c, d)]) w8 ∧ w7.heap.size ≤ w8.heap.size ∧ (∀ b, Kb b → b < w7.heap.size → w8.heap[b]? = w7.heap[b]?)) ∨ (b = false ∧ Jx ((lnL n k ++ rowL n c j) ++ [(c, d)]) w8)) := by
                                    rcases h8 with ⟨h, h'⟩ | ⟨h, h'⟩
                                    · exact ⟨true, h, .inl ⟨rfl, h'⟩⟩
                                    · exact ⟨false, h, .inr ⟨rfl, h'⟩⟩
                                  clear h8 hRd
                                  dsimp only
                                  refine hK _ _ ?_
                                  clear hK K
                                  (try simp only [Act.put, List.setIfInBounds_toArray, List.set_cons_zero, List.set_cons_succ])
                                  refine takeIn (i := 17) (v := ?_) rfl rfl (by kernel_rfl) (by kernel_rfl) (by kernel_rfl) (fun _ _ _ h => h) ⟨Or.inl ⟨by kernel_rfl, ?_⟩, fun _ => by kernel_rfl⟩ ?_
                                  rotate_left
                                  · intro w; go_simp; try with_reducible rfl
                                  (try simp only [Act.put, List.setIfInBounds_toArray, List.set_cons_zero, List.set_cons_succ])
                                  refine takeIn (i := 18) (v := ?_) rfl rfl (by kernel_rfl) (by kernel_rfl) (by kernel_rfl) (fun _ _ _ h => h) ⟨Or.inl ⟨by kernel_rfl, ?_⟩, fun _ => by kernel_rfl⟩ ?_
                                  rotate_left
                                  · intro w; go_simp; try with_reducible rfl
                                  (try simp only [Act.put, List.setIfInBounds_toArray, List.set_cons_zero, List.set_cons_succ])
                                  refine wpAnyIn_done (by kernel_rfl) ?_ _
                                  rcases hb8 with ⟨rfl, hJ8, hz8, hk8⟩ | ⟨rfl, hJx8⟩
                                  · gi_wp2
                                    go_roundw
                                    case rel => exact ⟨j + 1, d + 1, Lib.hid (by have := HJ.out; simp; omega), by omega, by omega, rfl, by rw [HO.out, ← List.append_assoc]; exact hJ8, Nat.le_trans hS7.1 hz8, (hk8 cb hk1 (Nat.lt_of_lt_of_le hcb hS7.1)).trans hS7.2.1, (hk8 gu hk2 (Nat.lt_of_lt_of_le hgu hS7.1)).trans hS7.2.2⟩
                                    case measure => simp [intOf]; omega
                                  · gi_wp2
                                    refine bodyPost_ret (results_none rfl _ _ _) rfl ?_
                                    exact ⟨⟨_, rfl⟩, .inr ⟨_, HPF.out, hJx8⟩⟩
                                exact AllReadyIn.nil
                              exact AllReadyIn.nil
                            exact AllReadyIn.nil
                          refine consIn rfl (fun K hK => ?_) ?_
                          · go_simp
                            refine hK _ _ ?_
                            clear hK K
                            (try simp only [Act.put, List.setIfInBounds_toArray, List.set_cons_zero, List.set_cons_succ])
                            refine wpAnyIn_ready (rs := [9]) (by kernel_rfl) (by simp) ?_
                            refine consIn rfl (fun K hK => ?_) ?_
                            · go_simp
                              refine (callsIn_wide.2 (HR.out _ _ (HLV _ hS6))).mono ?_
                              rintro e w7 ⟨rfl, hb7⟩
                              have hJ7 := hJ.belowZ hJ6 hb7
                              have hS7 := hS6.below hcb hgu hb7
                              have B57 := B56.below hb7
                              obtain ⟨_, _, _, _, _⟩ := B57.two
                              clear hb7
                              obtain ⟨fn, tmps, assign, body, hyl, hRd⟩ := hY _ _ _ hJ7 hS7.1 HPF.out
                              simp only [encP] at hyl
                              refine hK _ _ ?_
                              clear hK K
                              (try simp only [Act.put, List.setIfInBounds_toArray, List.set_cons_zero, List.set_cons_succ])
                              refine takeIn (i := 11) (v := ?_) rfl rfl (by kernel_rfl) (by kernel_rfl) (by kernel_rfl) (fun _ _ _ h => h) ⟨Or.inl ⟨by kernel_rfl, ?_⟩, fun _ => by kernel_rfl⟩ ?_
                              rotate_left
                              · intro w; go_simp; try with_reducible rfl
                              (try simp only [Act.put, List.setIfInBounds_toArray, List.set_cons_zero, List.set_cons_succ])
                              refine takeIn (i := 12) (v := ?_) rfl rfl (by kernel_rfl) (by kernel_rfl) (by kernel_rfl) (fun _ _ _ h => h) ⟨Or.inl ⟨by kernel_rfl, ?_⟩, fun _ => by kernel_rfl⟩ ?_
                              rotate_left
                              · intro w; go_simp; try with_reducible rfl
                              (try simp only [Act.put, List.setIfInBounds_toArray, List.set_cons_zero, List.set_cons_succ])
                              refine takeIn (i := 13) (v := ?_) rfl rfl (by kernel_rfl) (by kernel_rfl) (by kernel_rfl) (fun _ _ _ h => h) ⟨Or.inl ⟨by kernel_rfl, ?_⟩, fun _ => by kernel_rfl⟩ ?_
                              rotate_left
                              · intro w; go_simp; try with_reducible rfl
                              (try simp only [Act.put, List.setIfInBounds_toArray, List.set_cons_zero, List.set_cons_succ])
                              refine takeIn (i := 14) (v := ?_) rfl rfl (by kernel_rfl) (by kernel_rfl) (by kernel_rfl) (fun _ _ _ h => h) ⟨Or.inl ⟨by kernel_rfl, ?_⟩, fun _ => by kernel_rfl⟩ ?_
                              rotate_left
                              · intro w; go_simp; try with_reducible rfl
                              (try simp only [Act.put, List.setIfInBounds_toArray, List.set_cons_zero, List.set_cons_succ])
                              refine wpAnyIn_ready (rs := [15]) (by kernel_rfl) (by simp) ?_
                              refine consIn rfl (fun K hK => ?_) ?_
                              · go_simp
                                refine hK _ _ ?_
                                clear hK K
                                (try simp only [Act.put, List.setIfInBounds_toArray, List.set_cons_zero, List.set_cons_succ])
                                refine wpAnyIn_ready (rs := [16]) (by kernel_rfl) (by simp) ?_
                                refine consIn rfl (fun K hK => ?_) ?_
                                · go_simp
                                  refine hRd.mono ?_
                                  intro e w8 h8
                                  obtain ⟨b, rfl, hb8⟩ : ∃ b : Bool, e = .returned (.bool b) ∧ ((b = true ∧ J ((lnL n k ++ rowL n c j) ++ [(c, d)]) w8 ∧ w7.heap.size ≤ w8.heap.size ∧ (∀ b, Kb b → b < w7.heap.size → w8.heap[b]? = w7.heap[b]?)) ∨ (b = false ∧ Jx ((lnL n k ++ rowL n c j) ++ [(c, d)]) w8)) := by
                                    rcases h8 with ⟨h, h'⟩ | ⟨h, h'⟩
                                    · exact ⟨true, h, .inl ⟨rfl, h'⟩⟩
                                    · exact ⟨false, h, .inr ⟨rfl, h'⟩⟩
                                  clear h8 hRd
                                  dsimp only
                                  refine hK _ _ ?_
                                  clear hK K
                                  (try simp only [Act.put, List.setIfInBounds_toArray, List.set_cons_zero, List.set_cons_succ])
                                  refine takeIn (i := 17) (v := ?_) rfl rfl (by kernel_rfl) (by kernel_rfl) (by kernel_rfl) (fun _ _ _ h => h) ⟨Or.inl ⟨by kernel_rfl, ?_⟩, fun _ => by kernel_rfl⟩ ?_
                                  rotate_left
                                  · intro w; go_simp; try with_reducible rfl
                                  (try simp only [Act.put, List.setIfInBounds_toArray, List.set_cons_zero, List.set_cons_succ])
                                  refine takeIn (i := 18) (v := ?_) rfl rfl (by kernel_rfl) (by kernel_rfl) (by kernel_rfl) (fun _ _ _ h => h) ⟨Or.inl ⟨by kernel_rfl, ?_⟩, fun _ => by kernel_rfl⟩ ?_
                                  rotate_left
                                  · intro w; go_simp; try with_reducible rfl
                                  (try simp only [Act.put, List.setIfInBounds_toArray, List.set_cons_zero, List.set_cons_succ])
                                  refine wpAnyIn_done (by kernel_rfl) ?_ _
                                  rcases hb8 with ⟨rfl, hJ8, hz8, hk8⟩ | ⟨rfl, hJx8⟩
                                  · gi_wp2
                                    go_roundw
                                    case rel => exact ⟨j + 1, d + 1, Lib.hid (by have := HJ.out; simp; omega), by omega, by omega, rfl, by rw [HO.out, ← List.append_assoc]; exact hJ8, Nat.le_trans hS7.1 hz8, (hk8 cb hk1 (Nat.lt_of_lt_of_le hcb hS7.1)).trans hS7.2.1, (hk8 gu hk2 (Nat.lt_of_lt_of_le hgu hS7.1)).trans hS7.2.2⟩
                                    case measure => simp [intOf]; omega
                                  · gi_wp2
                                    refine bodyPost_ret (results_none rfl _ _ _) rfl ?_
                                    exact ⟨⟨_, rfl⟩, .inr ⟨_, HPF.out, hJx8⟩⟩
                                exact AllReadyIn.nil
                              exact AllReadyIn.nil
                            exact AllReadyIn.nil
                          exact AllReadyIn.nil
                        refine consIn rfl (fun K hK => ?_) ?_
                        · go_simp
                          refine hK _ _ ?_
                          clear hK K
                          (try simp only [Act.put, List.setIfInBounds_toArray, List.set_cons_zero, List.set_cons_succ])
                          refine wpAnyIn_ready (rs := [6]) (by kernel_rfl) (by simp) ?_
                          refine consIn rfl (fun K hK => ?_) ?_
                          · go_simp
                            refine hK _ _ ?_
                            clear hK K
                            (try simp only [Act.put, List.setIfInBounds_toArray, List.set_cons_zero, List.set_cons_succ])
                            refine wpAnyIn_ready (rs := [9]) (by kernel_rfl) (by simp) ?_
                            refine consIn rfl (fun K hK => ?_) ?_
                            · go_simp
                              refine (callsIn_wide.2 (HR.out _ _ (HLV _ hS6))).mono ?_
                              rintro e w7 ⟨rfl, hb7⟩
                              have hJ7 := hJ.belowZ hJ6 hb7
                              have hS7 := hS6.below hcb hgu hb7
                              have B57 := B56.below hb7
                              obtain ⟨_, _, _, _, _⟩ := B57.two
                              clear hb7
                              obtain ⟨fn, tmps, assign, body, hyl, hRd⟩ := hY _ _ _ hJ7 hS7.1 HPF.out
                              simp only [encP] at hyl
                              refine hK _ _ ?_
                              clear hK K
                              (try simp only [Act.put, List.setIfInBounds_toArray, List.set_cons_zero, List.set_cons_succ])
                              refine takeIn (i := 11) (v := ?_) rfl rfl (by kernel_rfl) (by kernel_rfl) (by kernel_rfl) (fun _ _ _ h => h) ⟨Or.inl ⟨by kernel_rfl, ?_⟩, fun _ => by kernel_rfl⟩ ?_
                              rotate_left
                              · intro w; go_simp; try with_reducible rfl
                              (try simp only [Act.put, List.setIfInBounds_toArray, List.set_cons_zero, List.set_cons_succ])
                              refine takeIn (i := 12) (v := ?_) rfl rfl (by kernel_rfl) (by kernel_rfl) (by kernel_rfl) (fun _ _ _ h => h) ⟨Or.inl ⟨by kernel_rfl, ?_⟩, fun _ => by kernel_rfl⟩ ?_
                              rotate_left
                              · intro w; go_simp; try with_reducible rfl
                              (try simp only [Act.put, List.setIfInBounds_toArray, List.set_cons_zero, List.set_cons_succ])
                              refine takeIn (i := 13) (v := ?_) rfl rfl (by kernel_rfl) (by kernel_rfl) (by kernel_rfl) (fun _ _ _ h => h) ⟨Or.inl ⟨by kernel_rfl, ?_⟩, fun _ => by kernel_rfl⟩ ?_
                              rotate_left
                              · intro w; go_simp; try with_reducible rfl
                              (try simp only [Act.put, List.setIfInBounds_toArray, List.set_cons_zero, List.set_cons_succ])
                              refine takeIn (i := 14) (v := ?_) rfl rfl (by kernel_rfl) (by kernel_rfl) (by kernel_rfl) (fun _ _ _ h => h) ⟨Or.inl ⟨by kernel_rfl, ?_⟩, fun _ => by kernel_rfl⟩ ?_
                              rotate_left
                              · intro w; go_simp; try with_reducible rfl
                              (try simp only [Act.put, List.setIfInBounds_toArray, List.set_cons_zero, List.set_cons_succ])
                              refine wpAnyIn_ready (rs := [15]) (by kernel_rfl) (by simp) ?_
                              refine consIn rfl (fun K hK => ?_) ?_
                              · go_simp
                                refine hK _ _ ?_
                                clear hK K
                                (try simp only [Act.put, List.setIfInBounds_toArray, List.set_cons_zero, List.set_cons_succ])
                                refine wpAnyIn_ready (rs := [16]) (by kernel_rfl) (by simp) ?_
                                refine consIn rfl (fun K hK => ?_) ?_
                                · go_simp
                                  refine hRd.mono ?_
                                  intro e w8 h8
                                  obtain ⟨b, rfl, hb8⟩ : ∃ b : Bool, e = .returned (.bool b) ∧ ((b = true ∧ J ((lnL n k ++ rowL n c j) ++ [(c, d)]) w8 ∧ w7.heap.size ≤ w8.heap.size ∧ (∀ b, Kb b → b < w7.heap.size → w8.heap[b]? = w7.heap[b]?)) ∨ (b = false ∧ Jx ((lnL n k ++ rowL n c j) ++ [(c, d)]) w8)) := by
                                    rcases h8 with ⟨h, h'⟩ | ⟨h, h'⟩
                                    · exact ⟨true, h, .inl ⟨rfl, h'⟩⟩
                                    · exact ⟨false, h, .inr ⟨rfl, h'⟩⟩
                                  clear h8 hRd
                                  dsimp only
                                  refine hK _ _ ?_
                                  clear hK K
                                  (try simp only [Act.put, List.setIfInBounds_toArray, List.set_cons_zero, List.set_cons_succ])
                                  refine takeIn (i := 17) (v := ?_) rfl rfl (by kernel_rfl) (by kernel_rfl) (by kernel_rfl) (fun _ _ _ h => h) ⟨Or.inl ⟨by kernel_rfl, ?_⟩, fun _ => by kernel_rfl⟩ ?_
                                  rotate_left
                                  · intro w; go_simp; try with_reducible rfl
                                  (try simp only [Act.put, List.setIfInBounds_toArray, List.set_cons_zero, List.set_cons_succ])
                                  refine takeIn (i := 18) (v := ?_) rfl rfl (by kernel_rfl) (by kernel_rfl) (by kernel_rfl) (fun _ _ _ h => h) ⟨Or.inl ⟨by kernel_rfl, ?_⟩, fun _ => by kernel_rfl⟩ ?_
                                  rotate_left
                                  · intro w; go_simp; try with_reducible rfl
                                  (try simp only [Act.put, List.setIfInBounds_toArray, List.set_cons_zero, List.set_cons_succ])
                                  refine wpAnyIn_done (by kernel_rfl) ?_ _
                                  rcases hb8 with ⟨rfl, hJ8, hz8, hk8⟩ | ⟨rfl, hJx8⟩
                                  · gi_wp2
                                    go_roundw
                                    case rel => exact ⟨j + 1, d + 1, Lib.hid (by have := HJ.out; simp; omega), by omega, by omega, rfl, by rw [HO.out, ← List.append_assoc]; exact hJ8, Nat.le_trans hS7.1 hz8, (hk8 cb hk1 (Nat.lt_of_lt_of_le hcb hS7.1)).trans hS7.2.1, (hk8 gu hk2 (Nat.lt_of_lt_of_le hgu hS7.1)).trans hS7.2.2⟩
                                    case measure => simp [intOf]; omega
                                  · gi_wp2
                                    refine bodyPost_ret (results_none rfl _ _ _) rfl ?_
                                    exact ⟨⟨_, rfl⟩, .inr ⟨_, HPF.out, hJx8⟩⟩
                                exact AllReadyIn.nil
                              exact AllReadyIn.nil
                            exact AllReadyIn.nil
                          exact AllReadyIn.nil
                        exact AllReadyIn.nil
                      exact AllReadyIn.nil
                    exact AllReadyIn.nil
                  · have HO : Hid (rowL n c (j + 1) = rowL n c j) := Lib.hid (rowL_no HJ.out (by
                      unfold okP
                      rw [hr', Bool.and_eq_false_iff]
                      exact .inr (decide_eq_false fun h => by injection h with ha hb; exact hy hb)))
                    clear hp hr hr' hx
                    refine wpIn_region_any (by kernel_rfl) ?_
                    refine takeIn (i := 0) (v := ?_) rfl rfl (by kernel_rfl) (by kernel_rfl) (by kernel_rfl) (fun _ _ _ h => h) ⟨Or.inl ⟨by kernel_rfl, ?_⟩, fun _ => by kernel_rfl⟩ ?_
                    rotate_left
                    · intro w; go_simp; try with_reducible rfl
                    (try simp only [Act.put, List.setIfInBounds_toArray, List.set_cons_zero, List.set_cons_succ])
                    refine takeIn (i := 2) (v := ?_) rfl rfl (by kernel_rfl) (by kernel_rfl) (by kernel_rfl) (fun _ _ _ h => h) ⟨Or.inl ⟨by kernel_rfl, ?_⟩, fun _ => by kernel_rfl⟩ ?_
                    rotate_left
                    · intro w; go_simp; try with_reducible rfl
                    (try simp only [Act.put, List.setIfInBounds_toArray, List.set_cons_zero, List.set_cons_succ])
                    refine takeIn (i := 3) (v := ?_) rfl rfl (by kernel_rfl) (by kernel_rfl) (by kernel_rfl) (fun _ _ _ h => h) ⟨Or.inl ⟨by kernel_rfl, ?_⟩, fun _ => by kernel_rfl⟩ ?_
                    rotate_left
                    · intro w; go_simp; try with_reducible rfl
                    (try simp only [Act.put, List.setIfInBounds_toArray, List.set_cons_zero, List.set_cons_succ])
                    refine wpAnyIn_ready (rs := [1]) (by kernel_rfl) (by simp) ?_
                    refine consIn rfl (fun K hK => ?_) ?_
                    · go_simp
                      refine hK _ _ ?_
                      clear hK K
                      (try simp only [Act.put, List.setIfInBounds_toArray, List.set_cons_zero, List.set_cons_succ])
                      refine wpAnyIn_ready (rs := [4]) (by kernel_rfl) (by simp) ?_
                      refine consIn rfl (fun K hK => ?_) ?_
                      · go_simp
                        refine (callsIn_wide.2 (HP.out _)).mono ?_
                        rintro e w6 ⟨rfl, hb6⟩
                        have hJ6 := hJ.belowZ hJz hb6
                        have hS6 := hSz.below hcb hgu hb6
                        have BR6 := BRz.below hb6
                        have B56 := B5z.below hb6
                        obtain ⟨_, _, _, _, _⟩ := BR6.two
                        obtain ⟨_, _, _, _, _⟩ := B56.two
                        clear hb6
                        refine hK _ _ ?_
                        clear hK K
                        (try simp only [Act.put, List.setIfInBounds_toArray, List.set_cons_zero, List.set_cons_succ])
                        refine takeIn (i := 5) (v := ?_) rfl rfl (by kernel_rfl) (by kernel_rfl) (by kernel_rfl) (fun _ _ _ h => h) ⟨Or.inl ⟨by kernel_rfl, ?_⟩, fun _ => by kernel_rfl⟩ ?_
                        rotate_left
                        · intro w; go_simp; try with_reducible rfl
                        (try simp only [Act.put, List.setIfInBounds_toArray, List.set_cons_zero, List.set_cons_succ])
                        refine takeIn (i := 7) (v := ?_) rfl rfl (by kernel_rfl) (by kernel_rfl) (by kernel_rfl) (fun _ _ _ h => h) ⟨Or.inl ⟨by kernel_rfl, ?_⟩, fun _ => by kernel_rfl⟩ ?_
                        rotate_left
                        · intro w; go_simp; try with_reducible rfl
                        (try simp only [Act.put, List.setIfInBounds_toArray, List.set_cons_zero, List.set_cons_succ])
                        refine takeIn (i := 8) (v := ?_) rfl rfl (by kernel_rfl) (by kernel_rfl) (by kernel_rfl) (fun _ _ _ h => h) ⟨Or.inl ⟨by kernel_rfl, ?_⟩, fun _ => by kernel_rfl⟩ ?_
                        rotate_left
                        · intro w; go_simp; try with_reducible rfl
                        (try simp only [Act.put, List.setIfInBounds_toArray, List.set_cons_zero, List.set_cons_succ])
                        refine wpAnyIn_ready (rs := [6, 10]) (by kernel_rfl) (by simp) ?_
                        refine consIn rfl (fun K hK => ?_) ?_
                        · go_simp
                          refine hK _ _ ?_
                          clear hK K
                          (try simp only [Act.put, List.setIfInBounds_toArray, List.set_cons_zero, List.set_cons_succ])
                          refine wpAnyIn_ready (rs := [9, 10]) (by kernel_rfl) (by simp) ?_
                          refine consIn rfl (fun K hK => ?_) ?_
                          · go_simp
                            refine (callsIn_wide.2 (HR.out _ _ (HLV _ hS6))).mono ?_
                            rintro e w7 ⟨rfl, hb7⟩
                            have hJ7 := hJ.belowZ hJ6 hb7
                            have hS7 := hS6.below hcb hgu hb7
                            have B57 := B56.below hb7
                            obtain ⟨_, _, _, _, _⟩ := B57.two
                            clear hb7
                            refine hK _ _ ?_
                            clear hK K
                            (try simp only [Act.put, List.setIfInBounds_toArray, List.set_cons_zero, List.set_cons_succ])
                            refine wpAnyIn_ready (rs := [10]) (by kernel_rfl) (by simp) ?_
                            refine consIn rfl (fun K hK => ?_) ?_
                            · go_simp
                              refine hK _ _ ?_
                              clear hK K
                              (try simp only [Act.put, List.setIfInBounds_toArray, List.set_cons_zero, List.set_cons_succ])
                              refine takeIn (i := 11) (v := ?_) rfl rfl (by kernel_rfl) (by kernel_rfl) (by kernel_rfl) (fun _ _ _ h => h) ⟨Or.inl ⟨by kernel_rfl, ?_⟩, fun _ => by kernel_rfl⟩ ?_
                              rotate_left
                              · intro w; go_simp; try with_reducible rfl
                              (try simp only [Act.put, List.setIfInBounds_toArray, List.set_cons_zero, List.set_cons_succ])
                              refine takeIn (i := 12) (v := ?_) rfl rfl (by kernel_rfl) (by kernel_rfl) (by kernel_rfl) (fun _ _ _ h => h) ⟨Or.inl ⟨by kernel_rfl, ?_⟩, fun _ => by kernel_rfl⟩ ?_
                              rotate_left
                              · intro w; go_simp; try with_reducible rfl
                              (try simp only [Act.put, List.setIfInBounds_toArray, List.set_cons_zero, List.set_cons_succ])
                              refine takeIn (i := 13) (v := ?_) rfl rfl (by kernel_rfl) (by kernel_rfl) (by kernel_rfl) (fun _ _ _ h => h) ⟨Or.inl ⟨by kernel_rfl, ?_⟩, fun _ => by kernel_rfl⟩ ?_
                              rotate_left
                              · intro w; go_simp; try with_reducible rfl
                              (try simp only [Act.put, List.setIfInBounds_toArray, List.set_cons_zero, List.set_cons_succ])
                              refine takeIn (i := 14) (v := undef) rfl rfl (by kernel_rfl) (by kernel_rfl) (by kernel_rfl) (fun _ _ _ h => h) ⟨Or.inr ⟨by kernel_rfl, rfl⟩, fun _ => by kernel_rfl⟩ ?_
                              (try simp only [Act.put, List.setIfInBounds_toArray, List.set_cons_zero, List.set_cons_succ])
                              refine takeIn (i := 15) (v := undef) rfl rfl (by kernel_rfl) (by kernel_rfl) (by kernel_rfl) (fun _ _ _ h => h) ⟨Or.inr ⟨by kernel_rfl, rfl⟩, fun _ => by kernel_rfl⟩ ?_
                              (try simp only [Act.put, List.setIfInBounds_toArray, List.set_cons_zero, List.set_cons_succ])
                              refine takeIn (i := 16) (v := undef) rfl rfl (by kernel_rfl) (by kernel_rfl) (by kernel_rfl) (fun _ _ _ h => h) ⟨Or.inr ⟨by kernel_rfl, rfl⟩, fun _ => by kernel_rfl⟩ ?_
                              (try simp only [Act.put, List.setIfInBounds_toArray, List.set_cons_zero, List.set_cons_succ])
                              refine takeIn (i := 17) (v := undef) rfl rfl (by kernel_rfl) (by kernel_rfl) (by kernel_rfl) (fun _ _ _ h => h) ⟨Or.inr ⟨by kernel_rfl, rfl⟩, fun _ => by kernel_rfl⟩ ?_
                              (try simp only [Act.put, List.setIfInBounds_toArray, List.set_cons_zero, List.set_cons_succ])
                              refine takeIn (i := 18) (v := ?_) rfl rfl (by kernel_rfl) (by kernel_rfl) (by kernel_rfl) (fun _ _ _ h => h) ⟨Or.inl ⟨by kernel_rfl, ?_⟩, fun _ => by kernel_rfl⟩ ?_
                              rotate_left
                              · intro w; go_simp; try with_reducible rfl
                              (try simp only [Act.put, List.setIfInBounds_toArray, List.set_cons_zero, List.set_cons_succ])
                              refine wpAnyIn_done (by kernel_rfl) ?_ _
                              gi_wp2
                              go_roundw
                              case rel => exact ⟨j + 1, d + 1, Lib.hid (by have := HJ.out; simp; omega), by omega, by omega, rfl, by rw [HO.out]; exact hJ7, hS7⟩
                              case measure => simp [intOf]; omega
                            exact AllReadyIn.nil
                          refine consIn rfl (fun K hK => ?_) ?_
                          · go_simp
                            refine hK _ _ ?_
                            clear hK K
                            (try simp only [Act.put, List.setIfInBounds_toArray, List.set_cons_zero, List.set_cons_succ])
                            refine wpAnyIn_ready (rs := [9]) (by kernel_rfl) (by simp) ?_
                            refine consIn rfl (fun K hK => ?_) ?_
                            · go_simp
                              refine (callsIn_wide.2 (HR.out _ _ (HLV _ hS6))).mono ?_
                              rintro e w7 ⟨rfl, hb7⟩
                              have hJ7 := hJ.belowZ hJ6 hb7
                              have hS7 := hS6.below hcb hgu hb7
                              have B57 := B56.below hb7
                              obtain ⟨_, _, _, _, _⟩ := B57.two
                              clear hb7
                              refine hK _ _ ?_
                              clear hK K
                              (try simp only [Act.put, List.setIfInBounds_toArray, List.set_cons_zero, List.set_cons_succ])
                              refine takeIn (i := 11) (v := ?_) rfl rfl (by kernel_rfl) (by kernel_rfl) (by kernel_rfl) (fun _ _ _ h => h) ⟨Or.inl ⟨by kernel_rfl, ?_⟩, fun _ => by kernel_rfl⟩ ?_
                              rotate_left
                              · intro w; go_simp; try with_reducible rfl
                              (try simp only [Act.put, List.setIfInBounds_toArray, List.set_cons_zero, List.set_cons_succ])
                              refine takeIn (i := 12) (v := ?_) rfl rfl (by kernel_rfl) (by kernel_rfl) (by kernel_rfl) (fun _ _ _ h => h) ⟨Or.inl ⟨by kernel_rfl, ?_⟩, fun _ => by kernel_rfl⟩ ?_
                              rotate_left
                              · intro w; go_simp; try with_reducible rfl
                              (try simp only [Act.put, List.setIfInBounds_toArray, List.set_cons_zero, List.set_cons_succ])
                              refine takeIn (i := 13) (v := ?_) rfl rfl (by kernel_rfl) (by kernel_rfl) (by kernel_rfl) (fun _ _ _ h => h) ⟨Or.inl ⟨by kernel_rfl, ?_⟩, fun _ => by kernel_rfl⟩ ?_
                              rotate_left
                              · intro w; go_simp; try with_reducible rfl
                              (try simp only [Act.put, List.setIfInBounds_toArray, List.set_cons_zero, List.set_cons_succ])
                              refine takeIn (i := 14) (v := undef) rfl rfl (by kernel_rfl) (by kernel_rfl) (by kernel_rfl) (fun _ _ _ h => h) ⟨Or.inr ⟨by kernel_rfl, rfl⟩, fun _ => by kernel_rfl⟩ ?_
                              (try simp only [Act.put, List.setIfInBounds_toArray, List.set_cons_zero, List.set_cons_succ])
                              refine takeIn (i := 15) (v := undef) rfl rfl (by kernel_rfl) (by kernel_rfl) (by kernel_rfl) (fun _ _ _ h => h) ⟨Or.inr ⟨by kernel_rfl, rfl⟩, fun _ => by kernel_rfl⟩ ?_
                              (try simp only [Act.put, List.setIfInBounds_toArray, List.set_cons_zero, List.set_cons_succ])
                              refine takeIn (i := 16) (v := undef) rfl rfl (by kernel_rfl) (by kernel_rfl) (by kernel_rfl) (fun _ _ _ h => h) ⟨Or.inr ⟨by kernel_rfl, rfl⟩, fun _ => by kernel_rfl⟩ ?_
                              (try simp only [Act.put, List.setIfInBounds_toArray, List.set_cons_zero, List.set_cons_succ])
                              refine takeIn (i := 17) (v := undef) rfl rfl (by kernel_rfl) (by kernel_rfl) (by kernel_rfl) (fun _ _ _ h => h) ⟨Or.inr ⟨by kernel_rfl, rfl⟩, fun _ => by kernel_rfl⟩ ?_
                              (try simp only [Act.put, List.setIfInBounds_toArray, List.set_cons_zero, List.set_cons_succ])
                              refine takeIn (i := 18) (v := ?_) rfl rfl (by kernel_rfl) (by kernel_rfl) (by kernel_rfl) (fun _ _ _ h => h) ⟨Or.inl ⟨by kernel_rfl, ?_⟩, fun _ => by kernel_rfl⟩ ?_
                              rotate_left
                              · intro w; go_simp; try with_reducible rfl
                              (try simp only [Act.put, List.setIfInBounds_toArray, List.set_cons_zero, List.set_cons_succ])
                              refine wpAnyIn_done (by kernel_rfl) ?_ _
                              gi_wp2
                              go_roundw
                              case rel => exact ⟨j + 1, d + 1, Lib.hid (by have := HJ.out; simp; omega), by omega, by omega, rfl, by rw [HO.out]; exact hJ7, hS7⟩
                              case measure => simp [intOf]; omega
                            exact AllReadyIn.nil
                          exact AllReadyIn.nil
                        refine consIn rfl (fun K hK => ?_) ?_
                        · go_simp
                          refine hK _ _ ?_
                          clear hK K
                          (try simp only [Act.put, List.setIfInBounds_toArray, List.set_cons_zero, List.set_cons_succ])
                          refine wpAnyIn_ready (rs := [6]) (by kernel_rfl) (by simp) ?_
                          refine consIn rfl (fun K hK => ?_) ?_
                          · go_simp
                            refine hK _ _ ?_
                            clear hK K
                            (try simp only [Act.put, List.setIfInBounds_toArray, List.set_cons_zero, List.set_cons_succ])
                            refine wpAnyIn_ready (rs := [9]) (by kernel_rfl) (by simp) ?_
                            refine consIn rfl (fun K hK => ?_) ?_
                            · go_simp
                              refine (callsIn_wide.2 (HR.out _ _ (HLV _ hS6))).mono ?_
                              rintro e w7 ⟨rfl, hb7⟩
                              have hJ7 := hJ.belowZ hJ6 hb7
                              have hS7 := hS6.below hcb hgu hb7
                              have B57 := B56.below hb7
                              obtain ⟨_, _, _, _, _⟩ := B57.two
                              clear hb7
                              refine hK _ _ ?_
                              clear hK K
                              (try simp only [Act.put, List.setIfInBounds_toArray, List.set_cons_zero, List.set_cons_succ])
                              refine takeIn (i := 11) (v := ?_) rfl rfl (by kernel_rfl) (by kernel_rfl) (by kernel_rfl) (fun _ _ _ h => h) ⟨Or.inl ⟨by kernel_rfl, ?_⟩, fun _ => by kernel_rfl⟩ ?_
                              rotate_left
                              · intro w; go_simp; try with_reducible rfl
                              (try simp only [Act.put, List.setIfInBounds_toArray, List.set_cons_zero, List.set_cons_succ])
                              refine takeIn (i := 12) (v := ?_) rfl rfl (by kernel_rfl) (by kernel_rfl) (by kernel_rfl) (fun _ _ _ h => h) ⟨Or.inl ⟨by kernel_rfl, ?_⟩, fun _ => by kernel_rfl⟩ ?_
                              rotate_left
                              · intro w; go_simp; try with_reducible rfl
                              (try simp only [Act.put, List.setIfInBounds_toArray, List.set_cons_zero, List.set_cons_succ])
                              refine takeIn (i := 13) (v := ?_) rfl rfl (by kernel_rfl) (by kernel_rfl) (by kernel_rfl) (fun _ _ _ h => h) ⟨Or.inl ⟨by kernel_rfl, ?_⟩, fun _ => by kernel_rfl⟩ ?_
                              rotate_left
                              · intro w; go_simp; try with_reducible rfl
                              (try simp only [Act.put, List.setIfInBounds_toArray, List.set_cons_zero, List.set_cons_succ])
                              refine takeIn (i := 14) (v := undef) rfl rfl (by kernel_rfl) (by kernel_rfl) (by kernel_rfl) (fun _ _ _ h => h) ⟨Or.inr ⟨by kernel_rfl, rfl⟩, fun _ => by kernel_rfl⟩ ?_
                              (try simp only [Act.put, List.setIfInBounds_toArray, List.set_cons_zero, List.set_cons_succ])
                              refine takeIn (i := 15) (v := undef) rfl rfl (by kernel_rfl) (by kernel_rfl) (by kernel_rfl) (fun _ _ _ h => h) ⟨Or.inr ⟨by kernel_rfl, rfl⟩, fun _ => by kernel_rfl⟩ ?_
                              (try simp only [Act.put, List.setIfInBounds_toArray, List.set_cons_zero, List.set_cons_succ])
                              refine takeIn (i := 16) (v := undef) rfl rfl (by kernel_rfl) (by kernel_rfl) (by kernel_rfl) (fun _ _ _ h => h) ⟨Or.inr ⟨by kernel_rfl, rfl⟩, fun _ => by kernel_rfl⟩ ?_
                              (try simp only [Act.put, List.setIfInBounds_toArray, List.set_cons_zero, List.set_cons_succ])
                              refine takeIn (i := 17) (v := undef) rfl rfl (by kernel_rfl) (by kernel_rfl) (by kernel_rfl) (fun _ _ _ h => h) ⟨Or.inr ⟨by kernel_rfl, rfl⟩, fun _ => by kernel_rfl⟩ ?_
                              (try simp only [Act.put, List.setIfInBounds_toArray, List.set_cons_zero, List.set_cons_succ])
                              refine takeIn (i := 18) (v := ?_) rfl rfl (by kernel_rfl) (by kernel_rfl) (by kernel_rfl) (fun _ _ _ h => h) ⟨Or.inl ⟨by kernel_rfl, ?_⟩, fun _ => by kernel_rfl⟩ ?_
                              rotate_left
                              · intro w; go_simp; try with_reducible rfl
                              (try simp only [Act.put, List.setIfInBounds_toArray, List.set_cons_zero, List.set_cons_succ])
                              refine wpAnyIn_done (by kernel_rfl) ?_ _
                              gi_wp2
                              go_roundw
                              case rel => exact ⟨j + 1, d + 1, Lib.hid (by have := HJ.out; simp; omega), by omega, by omega, rfl, by rw [HO.out]; exact hJ7, hS7⟩
                              case measure => simp [intOf]; omega
                            exact AllReadyIn.nil
                          exact AllReadyIn.nil
                        exact AllReadyIn.nil
                      exact AllReadyIn.nil
                    exact AllReadyIn.nil
                · have HO : Hid (rowL n c (j + 1) = rowL n c j) := Lib.hid (rowL_no HJ.out (by
                    unfold okP
                    rw [hr', Bool.and_eq_false_iff]
                    exact .inr (decide_eq_false fun h => by injection h with ha hb; exact hx ha)))
                  clear hp hr hr'
                  refine wpIn_region_any (by kernel_rfl) ?_
                  refine takeIn (i := 0) (v := ?_) rfl rfl (by kernel_rfl) (by kernel_rfl) (by kernel_rfl) (fun _ _ _ h => h) ⟨Or.inl ⟨by kernel_rfl, ?_⟩, fun _ => by kernel_rfl⟩ ?_
                  rotate_left
                  · intro w; go_simp; try with_reducible rfl
                  (try simp only [Act.put, List.setIfInBounds_toArray, List.set_cons_zero, List.set_cons_succ])
                  refine takeIn (i := 2) (v := ?_) rfl rfl (by kernel_rfl) (by kernel_rfl) (by kernel_rfl) (fun _ _ _ h => h) ⟨Or.inl ⟨by kernel_rfl, ?_⟩, fun _ => by kernel_rfl⟩ ?_
                  rotate_left
                  · intro w; go_simp; try with_reducible rfl
                  (try simp only [Act.put, List.setIfInBounds_toArray, List.set_cons_zero, List.set_cons_succ])
                  refine takeIn (i := 3) (v := ?_) rfl rfl (by kernel_rfl) (by kernel_rfl) (by kernel_rfl) (fun _ _ _ h => h) ⟨Or.inl ⟨by kernel_rfl, ?_⟩, fun _ => by kernel_rfl⟩ ?_
                  rotate_left
                  · intro w; go_simp; try with_reducible rfl
                  (try simp only [Act.put, List.setIfInBounds_toArray, List.set_cons_zero, List.set_cons_succ])
                  refine wpAnyIn_ready (rs := [1]) (by kernel_rfl) (by simp) ?_
                  refine consIn rfl (fun K hK => ?_) ?_
                  · go_simp
                    refine hK _ _ ?_
                    clear hK K
                    (try simp only [Act.put, List.setIfInBounds_toArray, List.set_cons_zero, List.set_cons_succ])
                    refine wpAnyIn_ready (rs := [4]) (by kernel_rfl) (by simp) ?_
                    refine consIn rfl (fun K hK => ?_) ?_
                    · go_simp
                      refine (callsIn_wide.2 (HP.out _)).mono ?_
                      rintro e w6 ⟨rfl, hb6⟩
                      have hJ6 := hJ.belowZ hJz hb6
                      have hS6 := hSz.below hcb hgu hb6
                      have BR6 := BRz.below hb6
                      have B56 := B5z.below hb6
                      obtain ⟨_, _, _, _, _⟩ := BR6.two
                      obtain ⟨_, _, _, _, _⟩ := B56.two
                      clear hb6
                      refine hK _ _ ?_
                      clear hK K
                      (try simp only [Act.put, List.setIfInBounds_toArray, List.set_cons_zero, List.set_cons_succ])
                      refine takeIn (i := 5) (v := ?_) rfl rfl (by kernel_rfl) (by kernel_rfl) (by kernel_rfl) (fun _ _ _ h => h) ⟨Or.inl ⟨by kernel_rfl, ?_⟩, fun _ => by kernel_rfl⟩ ?_
                      rotate_left
                      · intro w; go_simp; try with_reducible rfl
                      (try simp only [Act.put, List.setIfInBounds_toArray, List.set_cons_zero, List.set_cons_succ])
                      refine takeIn (i := 7) (v := ?_) rfl rfl (by kernel_rfl) (by kernel_rfl) (by kernel_rfl) (fun _ _ _ h => h) ⟨Or.inl ⟨by kernel_rfl, ?_⟩, fun _ => by kernel_rfl⟩ ?_
                      rotate_left
                      · intro w; go_simp; try with_reducible rfl
                      (try simp only [Act.put, List.setIfInBounds_toArray, List.set_cons_zero, List.set_cons_succ])
                      refine takeIn (i := 8) (v := ?_) rfl rfl (by kernel_rfl) (by kernel_rfl) (by kernel_rfl) (fun _ _ _ h => h) ⟨Or.inl ⟨by kernel_rfl, ?_⟩, fun _ => by kernel_rfl⟩ ?_
                      rotate_left
                      · intro w; go_simp; try with_reducible rfl
                      (try simp only [Act.put, List.setIfInBounds_toArray, List.set_cons_zero, List.set_cons_succ])
                      refine wpAnyIn_ready (rs := [6, 10]) (by kernel_rfl) (by simp) ?_
                      refine consIn rfl (fun K hK => ?_) ?_
                      · go_simp
                        refine hK _ _ ?_
                        clear hK K
                        (try simp only [Act.put, List.setIfInBounds_toArray, List.set_cons_zero, List.set_cons_succ])
                        refine wpAnyIn_ready (rs := [9, 10]) (by kernel_rfl) (by simp) ?_
                        refine consIn rfl (fun K hK => ?_) ?_
                        · go_simp
                          refine (callsIn_wide.2 (HR.out _ _ (HLV _ hS6))).mono ?_
                          rintro e w7 ⟨rfl, hb7⟩
                          have hJ7 := hJ.belowZ hJ6 hb7
                          have hS7 := hS6.below hcb hgu hb7
                          have B57 := B56.below hb7
                          obtain ⟨_, _, _, _, _⟩ := B57.two
                          clear hb7
                          refine hK _ _ ?_
                          clear hK K
                          (try simp only [Act.put, List.setIfInBounds_toArray, List.set_cons_zero, List.set_cons_succ])
                          refine wpAnyIn_ready (rs := [10]) (by kernel_rfl) (by simp) ?_
                          refine consIn rfl (fun K hK => ?_) ?_
                          · go_simp
                            refine hK _ _ ?_
                            clear hK K
                            (try simp only [Act.put, List.setIfInBounds_toArray, List.set_cons_zero, List.set_cons_succ])
                            refine takeIn (i := 11) (v := ?_) rfl rfl (by kernel_rfl) (by kernel_rfl) (by kernel_rfl) (fun _ _ _ h => h) ⟨Or.inl ⟨by kernel_rfl, ?_⟩, fun _ => by kernel_rfl⟩ ?_
                            rotate_left
                            · intro w; go_simp; try with_reducible rfl
                            (try simp only [Act.put, List.setIfInBounds_toArray, List.set_cons_zero, List.set_cons_succ])
                            refine takeIn (i := 12) (v := ?_) rfl rfl (by kernel_rfl) (by kernel_rfl) (by kernel_rfl) (fun _ _ _ h => h) ⟨Or.inl ⟨by kernel_rfl, ?_⟩, fun _ => by kernel_rfl⟩ ?_
                            rotate_left
                            · intro w; go_simp; try with_reducible rfl
                            (try simp only [Act.put, List.setIfInBounds_toArray, List.set_cons_zero, List.set_cons_succ])
                            refine takeIn (i := 13) (v := ?_) rfl rfl (by kernel_rfl) (by kernel_rfl) (by kernel_rfl) (fun _ _ _ h => h) ⟨Or.inl ⟨by kernel_rfl, ?_⟩, fun _ => by kernel_rfl⟩ ?_
                            rotate_left
                            · intro w; go_simp; try with_reducible rfl
                            (try simp only [Act.put, List.setIfInBounds_toArray, List.set_cons_zero, List.set_cons_succ])
                            refine takeIn (i := 14) (v := undef) rfl rfl (by kernel_rfl) (by kernel_rfl) (by kernel_rfl) (fun _ _ _ h => h) ⟨Or.inr ⟨by kernel_rfl, rfl⟩, fun _ => by kernel_rfl⟩ ?_
                            (try simp only [Act.put, List.setIfInBounds_toArray, List.set_cons_zero, List.set_cons_succ])
                            refine takeIn (i := 15) (v := undef) rfl rfl (by kernel_rfl) (by kernel_rfl) (by kernel_rfl) (fun _ _ _ h => h) ⟨Or.inr ⟨by kernel_rfl, rfl⟩, fun _ => by kernel_rfl⟩ ?_
                            (try simp only [Act.put, List.setIfInBounds_toArray, List.set_cons_zero, List.set_cons_succ])
                            refine takeIn (i := 16) (v := undef) rfl rfl (by kernel_rfl) (by kernel_rfl) (by kernel_rfl) (fun _ _ _ h => h) ⟨Or.inr ⟨by kernel_rfl, rfl⟩, fun _ => by kernel_rfl⟩ ?_
                            (try simp only [Act.put, List.setIfInBounds_toArray, List.set_cons_zero, List.set_cons_succ])
                            refine takeIn (i := 17) (v := undef) rfl rfl (by kernel_rfl) (by kernel_rfl) (by kernel_rfl) (fun _ _ _ h => h) ⟨Or.inr ⟨by kernel_rfl, rfl⟩, fun _ => by kernel_rfl⟩ ?_
                            (try simp only [Act.put, List.setIfInBounds_toArray, List.set_cons_zero, List.set_cons_succ])
                            refine takeIn (i := 18) (v := ?_) rfl rfl (by kernel_rfl) (by kernel_rfl) (by kernel_rfl) (fun _ _ _ h => h) ⟨Or.inl ⟨by kernel_rfl, ?_⟩, fun _ => by kernel_rfl⟩ ?_
                            rotate_left
                            · intro w; go_simp; try with_reducible rfl
                            (try simp only [Act.put, List.setIfInBounds_toArray, List.set_cons_zero, List.set_cons_succ])
                            refine wpAnyIn_done (by kernel_rfl) ?_ _
                            gi_wp2
                            go_roundw
                            case rel => exact ⟨j + 1, d + 1, Lib.hid (by have := HJ.out; simp; omega), by omega, by omega, rfl, by rw [HO.out]; exact hJ7, hS7⟩
                            case measure => simp [intOf]; omega
                          exact AllReadyIn.nil
                        refine consIn rfl (fun K hK => ?_) ?_
                        · go_simp
                          refine hK _ _ ?_
                          clear hK K
                          (try simp only [Act.put, List.setIfInBounds_toArray, List.set_cons_zero, List.set_cons_succ])
                          refine wpAnyIn_ready (rs := [9]) (by kernel_rfl) (by simp) ?_
                          refine consIn rfl (fun K hK => ?_) ?_
                          · go_simp
                            refine (callsIn_wide.2 (HR.out _ _ (HLV _ hS6))).mono ?_
                            rintro e w7 ⟨rfl, hb7⟩
                            have hJ7 := hJ.belowZ hJ6 hb7
                            have hS7 := hS6.below hcb hgu hb7
                            have B57 := B56.below hb7
                            obtain ⟨_, _, _, _, _⟩ := B57.two
                            clear hb7
                            refine hK _ _ ?_
                            clear hK K
                            (try simp only [Act.put, List.setIfInBounds_toArray, List.set_cons_zero, List.set_cons_succ])
                            refine takeIn (i := 11) (v := ?_) rfl rfl (by kernel_rfl) (by kernel_rfl) (by kernel_rfl) (fun _ _ _ h => h) ⟨Or.inl ⟨by kernel_rfl, ?_⟩, fun _ => by kernel_rfl⟩ ?_
                            rotate_left
                            · intro w; go_simp; try with_reducible rfl
                            (try simp only [Act.put, List.setIfInBounds_toArray, List.set_cons_zero, List.set_cons_succ])
                            refine takeIn (i := 12) (v := ?_) rfl rfl (by kernel_rfl) (by kernel_rfl) (by kernel_rfl) (fun _ _ _ h => h) ⟨Or.inl ⟨by kernel_rfl, ?_⟩, fun _ => by kernel_rfl⟩ ?_
                            rotate_left
                            · intro w; go_simp; try with_reducible rfl
                            (try simp only [Act.put, List.setIfInBounds_toArray, List.set_cons_zero, List.set_cons_succ])
                            refine takeIn (i := 13) (v := ?_) rfl rfl (by kernel_rfl) (by kernel_rfl) (by kernel_rfl) (fun _ _ _ h => h) ⟨Or.inl ⟨by kernel_rfl, ?_⟩, fun _ => by kernel_rfl⟩ ?_
                            rotate_left
                            · intro w; go_simp; try with_reducible rfl
                            (try simp only [Act.put, List.setIfInBounds_toArray, List.set_cons_zero, List.set_cons_succ])
                            refine takeIn (i := 14) (v := undef) rfl rfl (by kernel_rfl) (by kernel_rfl) (by kernel_rfl) (fun _ _ _ h => h) ⟨Or.inr ⟨by kernel_rfl, rfl⟩, fun _ => by kernel_rfl⟩ ?_
                            (try simp only [Act.put, List.setIfInBounds_toArray, List.set_cons_zero, List.set_cons_succ])
                            refine takeIn (i := 15) (v := undef) rfl rfl (by kernel_rfl) (by kernel_rfl) (by kernel_rfl) (fun _ _ _ h => h) ⟨Or.inr ⟨by kernel_rfl, rfl⟩, fun _ => by kernel_rfl⟩ ?_
                            (try simp only [Act.put, List.setIfInBounds_toArray, List.set_cons_zero, List.set_cons_succ])
                            refine takeIn (i := 16) (v := undef) rfl rfl (by kernel_rfl) (by kernel_rfl) (by kernel_rfl) (fun _ _ _ h => h) ⟨Or.inr ⟨by kernel_rfl, rfl⟩, fun _ => by kernel_rfl⟩ ?_
                            (try simp only [Act.put, List.setIfInBounds_toArray, List.set_cons_zero, List.set_cons_succ])
                            refine takeIn (i := 17) (v := undef) rfl rfl (by kernel_rfl) (by kernel_rfl) (by kernel_rfl) (fun _ _ _ h => h) ⟨Or.inr ⟨by kernel_rfl, rfl⟩, fun _ => by kernel_rfl⟩ ?_
                            (try simp only [Act.put, List.setIfInBounds_toArray, List.set_cons_zero, List.set_cons_succ])
                            refine takeIn (i := 18) (v := ?_) rfl rfl (by kernel_rfl) (by kernel_rfl) (by kernel_rfl) (fun _ _ _ h => h) ⟨Or.inl ⟨by kernel_rfl, ?_⟩, fun _ => by kernel_rfl⟩ ?_
                            rotate_left
                            · intro w; go_simp; try with_reducible rfl
                            (try simp only [Act.put, List.setIfInBounds_toArray, List.set_cons_zero, List.set_cons_succ])
                            refine wpAnyIn_done (by kernel_rfl) ?_ _
                            gi_wp2
                            go_roundw
                            case rel => exact ⟨j + 1, d + 1, Lib.hid (by have := HJ.out; simp; omega), by omega, by omega, rfl, by rw [HO.out]; exact hJ7, hS7⟩
                            case measure => simp [intOf]; omega
                          exact AllReadyIn.nil
                        exact AllReadyIn.nil
                      refine consIn rfl (fun K hK => ?_) ?_
                      · go_simp
                        refine hK _ _ ?_
                        clear hK K
                        (try simp only [Act.put, List.setIfInBounds_toArray, List.set_cons_zero, List.set_cons_succ])
                        refine wpAnyIn_ready (rs := [6]) (by kernel_rfl) (by simp) ?_
                        refine consIn rfl (fun K hK => ?_) ?_
                        · go_simp
                          refine hK _ _ ?_
                          clear hK K
                          (try simp only [Act.put, List.setIfInBounds_toArray, List.set_cons_zero, List.set_cons_succ])
                          refine wpAnyIn_ready (rs := [9]) (by kernel_rfl) (by simp) ?_
                          refine consIn rfl (fun K hK => ?_) ?_
                          · go_simp
                            refine (callsIn_wide.2 (HR.out _ _ (HLV _ hS6))).mono ?_
                            rintro e w7 ⟨rfl, hb7⟩
                            have hJ7 := hJ.belowZ hJ6 hb7
                            have hS7 := hS6.below hcb hgu hb7
                            have B57 := B56.below hb7
                            obtain ⟨_, _, _, _, _⟩ := B57.two
                            clear hb7
                            refine hK _ _ ?_
                            clear hK K
                            (try simp only [Act.put, List.setIfInBounds_toArray, List.set_cons_zero, List.set_cons_succ])
                            refine takeIn (i := 11) (v := ?_) rfl rfl (by kernel_rfl) (by kernel_rfl) (by kernel_rfl) (fun _ _ _ h => h) ⟨Or.inl ⟨by kernel_rfl, ?_⟩, fun _ => by kernel_rfl⟩ ?_
                            rotate_left
                            · intro w; go_simp; try with_reducible rfl
                            (try simp only [Act.put, List.setIfInBounds_toArray, List.set_cons_zero, List.set_cons_succ])
                            refine takeIn (i := 12) (v := ?_) rfl rfl (by kernel_rfl) (by kernel_rfl) (by kernel_rfl) (fun _ _ _ h => h) ⟨Or.inl ⟨by kernel_rfl, ?_⟩, fun _ => by kernel_rfl⟩ ?_
                            rotate_left
                            · intro w; go_simp; try with_reducible rfl
                            (try simp only [Act.put, List.setIfInBounds_toArray, List.set_cons_zero, List.set_cons_succ])
                            refine takeIn (i := 13) (v := ?_) rfl rfl (by kernel_rfl) (by kernel_rfl) (by kernel_rfl) (fun _ _ _ h => h) ⟨Or.inl ⟨by kernel_rfl, ?_⟩, fun _ => by kernel_rfl⟩ ?_
                            rotate_left
                            · intro w; go_simp; try with_reducible rfl
                            (try simp only [Act.put, List.setIfInBounds_toArray, List.set_cons_zero, List.set_cons_succ])
                            refine takeIn (i := 14) (v := undef) rfl rfl (by kernel_rfl) (by kernel_rfl) (by kernel_rfl) (fun _ _ _ h => h) ⟨Or.inr ⟨by kernel_rfl, rfl⟩, fun _ => by kernel_rfl⟩ ?_
                            (try simp only [Act.put, List.setIfInBounds_toArray, List.set_cons_zero, List.set_cons_succ])
                            refine takeIn (i := 15) (v := undef) rfl rfl (by kernel_rfl) (by kernel_rfl) (by kernel_rfl) (fun _ _ _ h => h) ⟨Or.inr ⟨by kernel_rfl, rfl⟩, fun _ => by kernel_rfl⟩ ?_
                            (try simp only [Act.put, List.setIfInBounds_toArray, List.set_cons_zero, List.set_cons_succ])
                            refine takeIn (i := 16) (v := undef) rfl rfl (by kernel_rfl) (by kernel_rfl) (by kernel_rfl) (fun _ _ _ h => h) ⟨Or.inr ⟨by kernel_rfl, rfl⟩, fun _ => by kernel_rfl⟩ ?_
                            (try simp only [Act.put, List.setIfInBounds_toArray, List.set_cons_zero, List.set_cons_succ])
                            refine takeIn (i := 17) (v := undef) rfl rfl (by kernel_rfl) (by kernel_rfl) (by kernel_rfl) (fun _ _ _ h => h) ⟨Or.inr ⟨by kernel_rfl, rfl⟩, fun _ => by kernel_rfl⟩ ?_
                            (try simp only [Act.put, List.setIfInBounds_toArray, List.set_cons_zero, List.set_cons_succ])
                            refine takeIn (i := 18) (v := ?_) rfl rfl (by kernel_rfl) (by kernel_rfl) (by kernel_rfl) (fun _ _ _ h => h) ⟨Or.inl ⟨by kernel_rfl, ?_⟩, fun _ => by kernel_rfl⟩ ?_
                            rotate_left
                            · intro w; go_simp; try with_reducible rfl
                            (try simp only [Act.put, List.setIfInBounds_toArray, List.set_cons_zero, List.set_cons_succ])
                            refine wpAnyIn_done (by kernel_rfl) ?_ _
                            gi_wp2
                            go_roundw
                            case rel => exact ⟨j + 1, d + 1, Lib.hid (by have := HJ.out; simp; omega), by omega, by omega, rfl, by rw [HO.out]; exact hJ7, hS7⟩
                            case measure => simp [intOf]; omega
                          exact AllReadyIn.nil
                        exact AllReadyIn.nil
                      exact AllReadyIn.nil
                    exact AllReadyIn.nil
                  exact AllReadyIn.nil
            · have HE : Hid (J (lnL n (k + 1)) wr) := Lib.hid (by
                have := HJ.out
                have := HN.out
                rw [lnL, HC0.out.1]
                rw [show n.toNat = j by omega]
                exact hJd)
              gi_wp2
              go_roundw
              case rel => exact ⟨k + 1, c + 1, Lib.hid (by have := HC0.out; simp; omega), by omega, by omega, rfl, HE.out, hS⟩
              case measure => simp [intOf]; omega
    · have HE : Hid (lnL n k = ln n) := Lib.hid (by have := HK.out; have := HN.out; unfold ln; rw [show k = n.toNat by omega])
      gi_wp2
      go_end0
      rw [HE.out] at hJk
      first | exact ⟨⟨_, rfl⟩, .inl ⟨_, rfl, hJk⟩⟩ | exact ⟨⟨_, rfl⟩, .inl hJk⟩
end Go.Proofs.YtdcomnnpnhinfaaDoor
