/- slices.Collect over the line's iterator: slices of pairs that a call makes. -/
import Derived.Test.YtmijmlngbahaaaaDoorLnO
namespace Go.Proofs.YtmijmlngbahaaaaDoor
open Go.ChangeShapes Go.WideShapes Go.ChangeAt Go.RowKit Go.Shelf
attribute [local go_sem] Oper.semAt_some

def flatP (ps : List (Int × Int)) : List Int := ps.flatMap fun p => [p.1, p.2]
theorem flatP_snoc (ps : List (Int × Int)) (p : Int × Int) : flatP (ps ++ [p]) = flatP ps ++ [p.1, p.2] := by simp [flatP]
theorem Box.ownP {W W' : World} {g B U : Nat} {xs : List Value} {row : Option Nat} (h : Box W g xs) (hg : W.grownBy W' row) (hr : ∀ r, row = some r → B ≤ r ∧ r < U) (hn : g < B ∨ U ≤ g) : Box W' g xs :=
  h.heapZ (hg.block g h.1 (fun e => by have := hr g e.symm; omega)) hg.size
theorem below_ownP {w W W' : World} {n B U : Nat} {row : Option Nat} (h : Below n w W) (hg : W.grownBy W' row) (hr : ∀ r, row = some r → B ≤ r ∧ r < U) (hn : n ≤ B) (hz : n ≤ W.heap.size) : Below n w W' :=
  h.grown hg hz (fun k e => by have := hr k e; omega)
theorem info_elP : (Tryd.prog.info? 46).map (fun i => (i.zero, i.size, i.bytes)) = some (some (.agg #[.int .i64 0, .int .i64 0]), 2, 16) := by kernel_rfl
/-- The slice v of n elements owns a row of blocks from L on, and reads as the flat list xs. -/
def GrP (w : World) (L : Nat) (v : Value) (n : Nat) (xs : List Int) : Prop := w.ownsRow L 46 2 v n (xs.map fun x => (.int .i64 x))
/-- The slice v of n elements reads as the flat list xs; its memory lies in one block from L on and below U, not frozen. -/
def SlP (w : World) (L U : Nat) (v : Value) (n : Nat) (xs : List Int) : Prop :=
  xs.length = 2 * n ∧ U ≤ w.heap.size ∧ ∃ (a : Option Addr) (cap : Nat), v = .slice a n cap ∧ (0 < n → ∃ g, a = some ⟨g, 0, none⟩ ∧ L ≤ g ∧ g < U ∧
    ∀ k, k < 2 * n → w.cell? ⟨g, k, none⟩ = some (.int .i64 (xs.getD k 0)) ∧ w.frozen? ⟨g, k, none⟩ = false)
theorem GrP.nil (w : World) (L : Nat) : GrP w L (.slice none 0 0) 0 [] := World.ownsRow_nil _ _ _ _
theorem GrP.madeAt {w : World} {L g : Nat} (hg : w.heap.size = g) (hL : L ≤ g) : GrP (w.alloc (.cells #[] 46)) L (.slice (some ⟨g, 0, none⟩) 0 0) 0 [] := by
  subst hg
  exact World.ownsRow_made w #[] 0 hL (by unfold maxLen; omega) (by simp)
theorem GrP.own {w w' : World} {L n : Nat} {v : Value} {xs : List Int} (h : GrP w L v n xs) (hb : Below w.heap.size w w') : GrP w' L v n xs := by
  refine World.ownsRow.kept (row := none) h ⟨hb.os, hb.tape, hb.output, hb.size, fun k hk _ => hb.block k hk⟩ ?_
  rcases e : v.ownBlock with _ | k
  · exact .inl rfl
  · exact .inr (by simp)
theorem GrP.alloc {w : World} {L n : Nat} {v : Value} {xs : List Int} (h : GrP w L v n xs) (ob : Obj) : GrP (w.alloc ob) L v n xs := World.ownsRow.alloc h ob
theorem GrP.shape {w : World} {L n : Nat} {v : Value} {xs : List Int} (h : GrP w L v n xs) : ∃ ad cap, v = .slice ad n cap := by
  obtain ⟨hl, ⟨rfl, h0⟩ | ⟨g, cap, cur, rfl, _⟩⟩ := h
  · exact ⟨none, 0, by rw [h0]⟩
  · exact ⟨_, cap, rfl⟩
theorem GrP.sl {w : World} {L n : Nat} {v : Value} {xs : List Int} (h : GrP w L v n xs) : SlP w L w.heap.size v n xs := by
  obtain ⟨hl, hc⟩ := h
  have hl' : xs.length = 2 * n := by simpa [Nat.mul_comm] using hl
  refine ⟨hl', Nat.le_refl _, ?_⟩
  obtain ⟨rfl, h0⟩ | ⟨g, cap, cur, rfl, hg, hh, hn, _, hsz, ht⟩ := hc
  · exact ⟨none, 0, by rw [h0], fun hp => by omega⟩
  · refine ⟨_, cap, rfl, fun _ => ⟨g, rfl, hg, (Array.getElem?_eq_some_iff.1 hh).1, fun k hk => ?_⟩⟩
    have hk' : k < xs.length := by omega
    have hc : cur.toList[k]? = some (.int .i64 (xs.getD k 0)) := by
      have h1 : (cur.toList.take (n * 2))[k]? = (xs.map fun x => (.int .i64 x))[k]? := by rw [ht]
      rw [List.getElem?_take_of_lt (by omega), List.getElem?_map, List.getElem?_eq_getElem hk'] at h1
      rw [h1]
      simp [List.getD, List.getElem?_eq_getElem hk']
    have hc' : cur[k]? = some (.int .i64 (xs.getD k 0)) := by rw [← Array.getElem?_toList]; exact hc
    constructor
    · simp [World.cell?, hh, hc']
    · simp [World.frozen?, hh]
theorem SlP.nil (w : World) (L U : Nat) (h : U ≤ w.heap.size) : SlP w L U (.slice none 0 0) 0 [] := ⟨rfl, h, none, 0, rfl, fun h => absurd h (by simp)⟩
theorem SlP.below {w w' : World} {L U n : Nat} {v : Value} {xs : List Int} (h : SlP w L U v n xs) (hb : Below U w w') : SlP w' L U v n xs := by
  obtain ⟨hl, hu, a, cap, rfl, hc⟩ := h
  refine ⟨hl, Nat.le_trans hu hb.size, a, cap, rfl, fun hn => ?_⟩
  obtain ⟨g, rfl, hg, hg', hcell⟩ := hc hn
  refine ⟨g, rfl, hg, hg', fun k hk => ?_⟩
  rw [hb.cell (p := ⟨g, k, none⟩) hg', hb.frozen (p := ⟨g, k, none⟩) hg']
  exact hcell k hk
theorem SlP.own {w w' : World} {L U n : Nat} {v : Value} {xs : List Int} (h : SlP w L U v n xs) (hb : Below w.heap.size w w') : SlP w' L U v n xs := h.below (hb.mono h.2.1)
theorem SlP.weak {w : World} {L L' U n : Nat} {v : Value} {xs : List Int} (h : SlP w L U v n xs) (hL : L' ≤ L) : SlP w L' U v n xs := by
  obtain ⟨hl, hu, a, cap, rfl, hc⟩ := h
  refine ⟨hl, hu, a, cap, rfl, fun h0 => ?_⟩
  obtain ⟨g, rfl, hg, r⟩ := hc h0
  exact ⟨g, rfl, Nat.le_trans hL hg, r⟩

/-- 'xs = append(xs, y)' in a round: the list grows by y; but for the list's block all stays as it was. -/
theorem appPI {F : Fence} {m : Nat} {ops : Array Oper} {rest : List Oper} {ob : Oper} {a : Act} {Q : Exit → Act → World → Prop} (hgd : ob.guard = none) (s x : Operand)
    (ho : ob.op = .call { callee := .builtin .append, args := #[s, x], argTypes := #[43, 43] })
    (L : Nat) (w : World) (v : Value) (n : Nat) (xs : List Int) (y0 y1 : Int) (hs : a.eval s = v) (hown : GrP w L v n xs) (g : Nat) (hx : a.eval x = .slice (some ⟨g, 0, none⟩) 1 1)
    (hg : w.heap.size = g) (hlen : n ≤ 1000000000) (hL : L ≤ w.heap.size)
    (h : ∀ v' w', GrP w' L v' (n + 1) (xs ++ [y0, y1]) → (w.alloc (.cells #[.int .i64 y0, .int .i64 y1] 46)).grownBy w' v.ownBlock → wpListIn F m Tryd.prog ops Q rest (a.put ob.dst v') w') : wpListIn F m Tryd.prog ops Q (ob :: rest) a (w.alloc (.cells #[.int .i64 y0, .int .i64 y1] 46)) := by
  obtain ⟨i0, hi, hz0, hz1, hz2⟩ := info_parts info_elP
  subst hg
  refine wpListIn_append_own _ hgd s x 43 ho L 46 i0 (.agg #[.int .i64 0, .int .i64 0]) 2 16 Tryd.underlying43 hi hz0 hz1 hz2 rfl (by decide) v n _ hs (GrP.alloc hown _) ⟨w.heap.size, 0, none⟩ 1 1 [.int .i64 y0, .int .i64 y1] hx rfl ?_ ?_ ?_ ?_ ?_ ?_
  · intro j u hj
    match j, hj with
    | 0, hj => simp at hj; subst hj; simp [Addr.add]
    | 1, hj => simp at hj; subst hj; simp [Addr.add]
  · intro u hu
    simp only [List.mem_cons, List.not_mem_nil, or_false] at hu
    rcases hu with rfl | rfl <;> rfl
  · unfold maxLen; omega
  · omega
  · simp; omega
  · intro v' w' hown' hgrow _
    refine h v' w' ?_ hgrow
    unfold GrP
    rw [List.map_append]
    exact hown'
theorem GrP.own_ge {w : World} {L n g : Nat} {v : Value} {xs : List Int} (h : GrP w L v n xs) (hg : v.ownBlock = some g) : L ≤ g := (h.lt g hg).1
theorem GrP.ownC {W W' : World} {L n B U : Nat} {v : Value} {xs : List Int} {row : Option Nat} (h : GrP W L v n xs) (hg : W.grownBy W' row) (hr : ∀ r, row = some r → B ≤ r ∧ r < U) (hn : U ≤ L) : GrP W' L v n xs := by
  refine World.ownsRow.kept h hg ?_
  rcases e : v.ownBlock with _ | k
  · exact .inl rfl
  · exact .inr fun he => by have := hr k he.symm; have := h.own_ge e; omega
theorem GrP.weakC {w : World} {L L' n : Nat} {v : Value} {xs : List Int} (h : GrP w L v n xs) (hL : L' ≤ L) : GrP w L' v n xs := by
  obtain ⟨hl, hc⟩ := h
  refine ⟨hl, ?_⟩
  obtain hc | ⟨g, cap, cur, h1, h2, h3⟩ := hc
  · exact .inl hc
  · exact .inr ⟨g, cap, cur, h1, Nat.le_trans hL h2, h3⟩

/-- What AppendSeq keeps between two rounds. -/
def AP (w : World) (pre : List (Int × Int)) (W : World) : Prop :=
  Below w.heap.size w W ∧ w.heap.size + 1 ≤ W.heap.size ∧ ∃ v, Box W w.heap.size [v] ∧ GrP W (w.heap.size + 3) v pre.length (flatP pre)
set_option maxRecDepth 100000 in
set_option maxHeartbeats 4000000 in
theorem appendSeqP_is {gf : Nat} {lb : Array Value} (eg : ∀ args w, (callFunc gf args).run Tryd.prog w = .ok (.enter gf args) w) {Kb : Nat → Prop} {Nx : List (Int × Int) → (Int × Int) → Prop} {S Sp : List (Int × Int) → Prop} (w : World)
    (hseq : SeqZ Tryd.prog gf lb encP Kb Nx S Sp w) (hKb : ∀ b, Kb b → b < w.heap.size) (hN : ∀ pre x, Nx pre x → pre.length ≤ 1000000) :
    Calls Tryd.prog 44 #[.slice none 0 0, .func (.func gf) #[] lb] w fun e w' => ∃ v ys, e = .returned v ∧ S ys ∧ GrP w' w.heap.size v ys.length (flatP ys) ∧ Below w.heap.size w w' := by
  refine (callsIn_wide (n := 3)).1 ?_
  have hro : Fence.wide.round = none := rfl
  refine callsIn_of_wp_marks Tryd.func44 rfl trivial ?_ hro
  simp only [Tryd.ntmps44, List.size_toArray, List.length_cons, List.length_nil, Nat.reduceAdd, Nat.reduceSub, Array.replicate_succ, Array.replicate_zero, List.push_toArray, List.append_toArray, List.nil_append, List.cons_append]
  gi_wp2_with fail
  obtain ⟨W3, hW3⟩ : ∃ W3, w.alloc (.cells #[.slice none 0 0] 43) = W3 := ⟨_, rfl⟩
  have hs3 : W3.heap.size = w.heap.size + 1 := by rw [← hW3]; simp
  have T3 : Below w.heap.size w W3 := by rw [← hW3]; repeat (first | with_reducible exact own_refl _ | with_reducible assumption | with_reducible apply own_alloc | with_reducible apply own_drewN | with_reducible apply own_drew | ((with_reducible refine own_setCell ?_ ?_ _); rotate_left; focus (first | (simp; done) | (simp; omega))) | (with_reducible (refine own_trans ?_ (by assumption))))
  have I3 : AP w [] W3 := ⟨T3, by omega, _, by rw [← hW3]; exact Box.new _ _ _, GrP.nil _ _⟩
  rw [hW3]
  clear hW3
  have OI : OwnC W3.heap.size (W3.heap.size + 2) (AP w) := by
    rintro s X Y row ⟨h1, h2, v, h3, h4⟩ hg hr
    rw [hs3] at hr
    exact ⟨below_ownP h1 hg hr (by omega) (by omega), Nat.le_trans h2 hg.size, v, h3.ownP hg hr (by omega), h4.ownC hg hr (by omega)⟩
  refine rangeZ (gf := gf) (lb := lb) rfl eg hseq T3 (fun k hk => by have := hKb k hk; omega) (fun _ => rfl)
    (AP w) (fun _ _ _ => False) OI (fun _ _ _ _ _ h _ _ => h) I3 (fun x a' W => ∃ g, W3.heap.size + 2 ≤ g ∧ Box W g [.int .i64 x.1, .int .i64 x.2] ∧ a' = { tmps := #[.slice none 0 0, .func (.func gf) #[] lb, .pointer (some ⟨w.heap.size, 0, none⟩), undef, .slice none 0 0, .pointer (some ⟨g, 0, none⟩), .func (.func gf) #[] lb, (.agg #[.int .i64 x.1, .int .i64 x.2]), undef, undef, undef, undef, undef], defers := [] }) ?hAx ?assign ?body ?done ?stop
  case hAx =>
    rintro x s X Y row ⟨g, h1, h2, h3⟩ hg hr
    exact ⟨g, h1, h2.ownP hg hr (by omega), h3⟩
  case assign =>
    rintro l pre x W K hI hz hK
    simp only [encP]
    gi_wp2
    exact hK _ _ (KeepZ.grown (World.grownBy_alloc _ _ none) (fun r e => by cases e)) (OI.belowZ hI (own_alloc (own_refl _) _)) ⟨W.heap.size, hz, Box.new _ _ _, rfl⟩
  case body =>
    rintro l pre x a' W hI ⟨g, hg, hB, rfl⟩ hz hnx
    obtain ⟨T, hsz, v, B0, G⟩ := hI
    obtain ⟨x0, x1⟩ := x
    obtain ⟨_, g0, g1, _, _⟩ := hB.two
    obtain ⟨_, hv0, hv1⟩ := B0.one
    obtain ⟨ad, cap, hv⟩ := G.shape
    subst hv
    have hlen := hN _ _ hnx
    simp only at g0 g1
    gi_wp2_with (gi_at_builtin; refine appPI rfl _ _ rfl (w.heap.size + 3) W (.slice ad pre.length cap) pre.length (flatP pre) x0 x1 rfl G W.heap.size rfl rfl (by omega) (by omega) ?_; intro v' w6 hG6 hg6; obtain ⟨ad', cap', rfl⟩ := hG6.shape; have hz6 : W.heap.size + 1 ≤ w6.heap.size := (by have := hg6.size; simpa using this); have hk6 : w6.heap[w.heap.size]? = W.heap[w.heap.size]? := (hg6.block _ (by simp; omega) (fun e => by have := G.own_ge e.symm; omega)).trans (Below.heap_alloc _ _ _ B0.1); have B6 := B0.heapZ hk6 (by omega); obtain ⟨_, hw0, hw1⟩ := B6.one)
    have hgo : ∀ g', (Value.slice ad pre.length cap).ownBlock = some g' → w.heap.size + 3 ≤ g' := fun g' e => G.own_ge e
    refine ⟨((KeepZ.grown (World.grownBy_alloc _ _ none) (fun r e => by cases e)).trans (KeepZ.grown hg6 fun r e => ?_)).trans (KeepZ.grown (grownBy_setZ _ _ _) fun r e => ?_), ?_, by simp; omega, _, Box.set B6 0 (by simp) _, ?_⟩
    · have h1 := hgo r e
      rintro (h | h)
      · have := hKb r h; omega
      · omega
    · simp only [Option.some.injEq] at e
      rintro (h | h)
      · have := hKb r h; omega
      · omega
    · exact own_setCell ((own_alloc T _).grown hg6 (by simp; omega) (fun k e => by have := hgo k e; omega)) (Nat.le_refl _) _
    · rw [flatP_snoc, List.length_append]
      exact hG6.ownC (B := w.heap.size) (U := w.heap.size + 1) (grownBy_setZ w6 ⟨w.heap.size, 0, none⟩ _) (fun r e => by cases e; dsimp only; omega) (by omega)
  case done =>
    rintro ys W hS hI hD
    obtain ⟨T, hsz, v, B0, G⟩ := hI
    obtain ⟨_, hv0, hv1⟩ := B0.one
    gi_wp2
    rw [hs3] at hD ⊢
    refine ⟨by simp, .inl ⟨_, _, rfl, run_takeDeferred hD, ?_⟩⟩
    exact ⟨_, by simp [results, Tryd.results44, go_sem], v, ys, rfl, hS, (G.ownC (grownBy_putObj' W (w.heap.size + 1) (.deferred none)) (B := w.heap.size + 1) (U := w.heap.size + 3) (fun r e => by cases e; omega) (Nat.le_refl _)).weakC (by omega), T.grown (grownBy_putObj' _ _ _) T.size (fun k e => by cases e; omega)⟩
  case stop =>
    rintro c pre W hpre hI hD
    exact hI.elim
end Go.Proofs.YtmijmlngbahaaaaDoor
