/- Slices of fractions beside other boxes: what a store or an append leaves as it was. -/
import Derived.Test.YtejghidllochoaaGrF
import Derived.Test.YtejghidllochoaaCvM
import Derived.Test.YtejghidllochoaaMul
namespace Go.Proofs.Ytejghidllochoaa
open Go.ChangeShapes Go.WideShapes Go.ChangeAt Go.RowKit

/-- Block b holds cells of the type t. -/
def TyB (w : World) (b : Nat) (t : TypeId) : Prop := ∃ cur, w.heap[b]? = some (.cells cur t (0, 0))
theorem TyB.of_heap {w w' : World} {b : Nat} {t : TypeId} (h : TyB w b t) (he : w'.heap[b]? = w.heap[b]?) : TyB w' b t := by
  obtain ⟨c, hc⟩ := h
  exact ⟨c, he.trans hc⟩
theorem TyB.lt {w : World} {b : Nat} {t : TypeId} (h : TyB w b t) : b < w.heap.size := by
  obtain ⟨c, hc⟩ := h
  exact (Array.getElem?_eq_some_iff.1 hc).1
theorem TyB.below {w w' : World} {b : Nat} {t : TypeId} (h : TyB w b t) (hb : Below w.heap.size w w') : TyB w' b t := h.of_heap (hb.block b h.lt)
theorem TyB.alloc {w : World} {b : Nat} {t : TypeId} (h : TyB w b t) (o : Obj) : TyB (w.alloc o) b t := h.of_heap (Below.heap_alloc _ _ _ h.lt)
theorem TyB.newAt {w : World} {g : Nat} (hg : w.heap.size = g) (xs : Array Value) (t : TypeId) : TyB (w.alloc (.cells xs t)) g t := by
  subst hg
  exact ⟨xs, Array.getElem?_push_size⟩
theorem TyB.set {w : World} {b : Nat} {t : TypeId} (h : TyB w b t) (p : Addr) (v : Value) : TyB (w.setCell p v) b t := by
  by_cases e : p.block = b
  · obtain ⟨c, hc⟩ := h
    subst e
    obtain ⟨hlt, hk⟩ := Array.getElem?_eq_some_iff.1 hc
    unfold TyB
    simp only [World.setCell]
    rw [Array.getElem?_eq_getElem (by rw [Array.size_modify]; exact hlt), Array.getElem_modify_self, hk]
    exact ⟨_, rfl⟩
  · exact h.of_heap (Below.heap_setCell w p v b (fun he => e he.symm))
theorem GrF.far {w : World} {L n : Nat} {v : Value} {xs : List Int} (h : GrF w L v n xs) {p : Addr} (hp : ∀ g, v.ownBlock = some g → g ≠ p.block) (u : Value) : GrF (w.setCell p u) L v n xs := by
  refine World.ownsRow.kept (row := some p.block) h ⟨rfl, rfl, rfl, by simp [World.setCell], fun k _ hne => Below.heap_setCell w p u k (fun e => hne (by rw [e]))⟩ ?_
  rcases e : v.ownBlock with _ | g
  · exact .inl rfl
  · exact .inr (fun he => hp g e (by injection he))
theorem GrF.apart {w : World} {L n b : Nat} {v : Value} {xs : List Int} {t : TypeId} (h : GrF w L v n xs) (hT : TyB w b t) (ht : t ≠ 26) : ∀ g, v.ownBlock = some g → g ≠ b := by
  intro g hg e
  subst e
  obtain ⟨c, hc⟩ := hT
  obtain ⟨hl, ⟨rfl, h1⟩ | ⟨g', cap, cur, rfl, hg', hh, _⟩⟩ := h
  · simp [Value.ownBlock] at hg
  · have e : g' = g := by simpa [Value.ownBlock] using hg
    subst e
    rw [hh] at hc
    injection hc with hc
    injection hc with h1 h2 h3
    exact ht h2.symm
/-- 'xs = append(xs, y)': and what lies apart from the list's block stays as it was. -/
theorem appFk {ops : Array Oper} {rest : List Oper} {ob : Oper} {a : Act} {Q : Exit → Act → World → Prop} (hgd : ob.guard = none) (s x : Operand)
    (ho : ob.op = .call { callee := .builtin .append, args := #[s, x], argTypes := #[23, 23] })
    (L : Nat) (w : World) (v : Value) (n : Nat) (xs : List Int) (y0 y1 : Int) (hs : a.eval s = v) (hown : GrF w L v n xs) (g : Nat) (hx : a.eval x = .slice (some ⟨g, 0, none⟩) 1 1)
    (hg : w.heap.size = g) (hlen : n ≤ 1000000000) (hL : L ≤ w.heap.size)
    (h : ∀ v' w', GrF w' L v' (n + 1) (xs ++ [y0, y1]) → Below L w w' → w.heap.size ≤ w'.heap.size → (∀ b, b < w.heap.size → (∀ g, v.ownBlock = some g → g ≠ b) → w'.heap[b]? = w.heap[b]?) → wpList Try.prog ops Q rest (a.put ob.dst v') w') : wpList Try.prog ops Q (ob :: rest) a (w.alloc (.cells #[.int .i64 y0, .int .i64 y1] 26)) := by
  obtain ⟨i0, hi, hz0, hz1, hz2⟩ := info_parts info_elF
  subst hg
  refine wpList_append_own _ hgd s x 23 ho L 26 i0 (.agg #[.int .i64 0, .int .i64 0]) 2 16 Try.underlying23 hi hz0 hz1 hz2 rfl (by decide) v n _ hs (GrF.alloc hown _) ⟨w.heap.size, 0, none⟩ 1 1 [.int .i64 y0, .int .i64 y1] hx rfl ?_ ?_ ?_ ?_ ?_ ?_
  · intro j u hj
    match j, hj with
    | 0, hj => simp at hj; subst hj; simp [Addr.add]
    | 1, hj => simp at hj; subst hj; simp [Addr.add]
  · intro u hu
    simp only [List.mem_cons, List.not_mem_nil, or_false] at hu
    rcases hu with rfl | rfl <;> rfl
  · unfold maxLen; omega
  · omega
  · simp; omega
  · intro v' w' hown' hgrow _
    have hs' := hgrow.size
    simp only [World.size_alloc] at hs'
    refine h v' w' ?_ ?_ (by omega) ?_
    · unfold GrF
      rw [List.map_append]
      exact hown'
    · have hb : Below L w (w.alloc (.cells #[.int .i64 y0, .int .i64 y1] 26)) := (Below.refl L w).alloc hL _
      exact hb.grown hgrow (by simp; omega) (fun j hj => (hown.lt j hj).1)
    · intro b hb hne
      exact (hgrow.block b (by simp; omega) (fun e => hne b e.symm rfl)).trans (Below.heap_alloc _ _ _ hb)
end Go.Proofs.Ytejghidllochoaa
/- spec.l03Convergents: contract. -/
namespace Go.Proofs.Ytejghidllochoaa
open Go.ChangeShapes Go.WideShapes Go.ChangeAt Go.RowKit

def okQ (p : Int × Int) : Bool := inW p.1 1000000000 && inW p.2 1000000000
def flatQ (ps : List (Int × Int)) : List Int := ps.flatMap fun p => [p.1, p.2]
theorem flatQ_snoc (ps : List (Int × Int)) (p : Int × Int) : flatQ (ps ++ [p]) = flatQ ps ++ [p.1, p.2] := by simp [flatQ]
theorem flatQ_len (ps : List (Int × Int)) : (flatQ ps).length = 2 * ps.length := by
  induction ps with
  | nil => rfl
  | cons p r ih => simp only [flatQ, List.flatMap_cons, List.length_append, List.length_cons, List.length_nil] at *; omega
theorem ok_prefix {ps qs : List (Int × Int)} (h : ps <+: qs) (hp : ps.all okQ = false) : qs.all okQ = false := by
  obtain ⟨t, rfl⟩ := h
  simp [List.all_append, hp]
theorem Box.of_heapS {w w' : World} {g : Nat} {xs : List Value} (h : Box w g xs) (he : w'.heap[g]? = w.heap[g]?) (hs : w.heap.size ≤ w'.heap.size) : Box w' g xs :=
  ⟨Nat.lt_of_lt_of_le h.1 hs, fun i v hv => ⟨(World.cell?_of_block (a := ⟨g, i, none⟩) he).trans (h.2 i v hv).1, (World.frozen?_of_block (a := ⟨g, i, none⟩) he).trans (h.2 i v hv).2⟩⟩
/-- What l03Convergents gives back. -/
def RetC (r : Bool) (n : Nat) (xs : List Int) (w : World) (e : Ending) (w' : World) : Prop :=
  ((r = true ∧ ∃ v, e = .returned (.tuple #[v, .bool true]) ∧ GrF w' w.heap.size v n xs) ∨ (r = false ∧ e = .returned (.tuple #[.slice none 0 0, .bool false]))) ∧ Below w.heap.size w w'
end Go.Proofs.Ytejghidllochoaa
