/- What stays where a loop's books and an iterator's boxes turn. -/
import Derived.Test.YtejghidllochoaaCvI
import Derived.Test.YtejghidllochoaaCvS
import Derived.Maps.AppendAt
namespace Go.Proofs.Ytejghidllochoaa
open Go.ChangeShapes Go.WideShapes Go.ChangeAt Go.RowKit

theorem Box.ownC {W W' : World} {g B U : Nat} {xs : List Value} {row : Option Nat} (h : Box W g xs) (hg : W.grownBy W' row) (hr : ∀ r, row = some r → B ≤ r ∧ r < U) (hn : g < B ∨ U ≤ g) : Box W' g xs :=
  h.of_heap (hg.block g h.1 (fun e => by have := hr g e.symm; omega)) hg.size
theorem grownBy_set (W : World) (p : Addr) (v : Value) : W.grownBy (W.setCell p v) (some p.block) :=
  ⟨rfl, rfl, rfl, by simp [World.setCell], fun k _ hk => Below.heap_setCell W p v k (fun e => hk (by rw [e]))⟩
theorem Box.far2' {w : World} {g b : Nat} {xs : List Value} (h : Box w g xs) (hne : g ≠ b) (u v : Value) : Box ((w.setCell ⟨b, 0, none⟩ u).setCell ⟨b, 1, none⟩ v) g xs := (h.far hne u).far hne v
theorem below_ownC {w W W' : World} {n B U : Nat} {row : Option Nat} (h : Below n w W) (hg : W.grownBy W' row) (hr : ∀ r, row = some r → B ≤ r ∧ r < U) (hn : n ≤ B) (hz : n ≤ W.heap.size) : Below n w W' :=
  h.grown hg hz (fun k e => by have := hr k e; omega)
end Go.Proofs.Ytejghidllochoaa
/- slices.Collect over an iterator with two boxes of its own. -/
namespace Go.Proofs.Ytejghidllochoaa
open Go.ChangeShapes Go.WideShapes Go.ChangeAt Go.RowKit Go.Shelf
attribute [local go_sem] Oper.semAt_some

/-- 'xs = append(xs, y)' in a round: the list grows by y; but for the list's block all stays as it was. -/
theorem appFI {F : Fence} {m : Nat} {ops : Array Oper} {rest : List Oper} {ob : Oper} {a : Act} {Q : Exit → Act → World → Prop} (hgd : ob.guard = none) (s x : Operand)
    (ho : ob.op = .call { callee := .builtin .append, args := #[s, x], argTypes := #[23, 23] })
    (L : Nat) (w : World) (v : Value) (n : Nat) (xs : List Int) (y0 y1 : Int) (hs : a.eval s = v) (hown : GrF w L v n xs) (g : Nat) (hx : a.eval x = .slice (some ⟨g, 0, none⟩) 1 1)
    (hg : w.heap.size = g) (hlen : n ≤ 1000000000) (hL : L ≤ w.heap.size)
    (h : ∀ v' w', GrF w' L v' (n + 1) (xs ++ [y0, y1]) → (w.alloc (.cells #[.int .i64 y0, .int .i64 y1] 26)).grownBy w' v.ownBlock → wpListIn F m Try.prog ops Q rest (a.put ob.dst v') w') : wpListIn F m Try.prog ops Q (ob :: rest) a (w.alloc (.cells #[.int .i64 y0, .int .i64 y1] 26)) := by
  obtain ⟨i0, hi, hz0, hz1, hz2⟩ := info_parts info_elF
  subst hg
  refine wpListIn_append_own _ hgd s x 23 ho L 26 i0 (.agg #[.int .i64 0, .int .i64 0]) 2 16 Try.underlying23 hi hz0 hz1 hz2 rfl (by decide) v n _ hs (GrF.alloc hown _) ⟨w.heap.size, 0, none⟩ 1 1 [.int .i64 y0, .int .i64 y1] hx rfl ?_ ?_ ?_ ?_ ?_ ?_
  · intro j u hj
    match j, hj with
    | 0, hj => simp at hj; subst hj; simp [Addr.add]
    | 1, hj => simp at hj; subst hj; simp [Addr.add]
  · intro u hu
    simp only [List.mem_cons, List.not_mem_nil, or_false] at hu
    rcases hu with rfl | rfl <;> rfl
  · unfold maxLen; omega
  · omega
  · simp; omega
  · intro v' w' hown' hgrow _
    refine h v' w' ?_ hgrow
    unfold GrF
    rw [List.map_append]
    exact hown'
theorem GrF.own_ge {w : World} {L n g : Nat} {v : Value} {xs : List Int} (h : GrF w L v n xs) (hg : v.ownBlock = some g) : L ≤ g := (h.lt g hg).1
theorem GrF.ownC {W W' : World} {L n B U : Nat} {v : Value} {xs : List Int} {row : Option Nat} (h : GrF W L v n xs) (hg : W.grownBy W' row) (hr : ∀ r, row = some r → B ≤ r ∧ r < U) (hn : U ≤ L) : GrF W' L v n xs := by
  refine World.ownsRow.kept h hg ?_
  rcases e : v.ownBlock with _ | k
  · exact .inl rfl
  · exact .inr fun he => by have := hr k he.symm; have := h.own_ge e; omega
theorem GrF.weakC {w : World} {L L' n : Nat} {v : Value} {xs : List Int} (h : GrF w L v n xs) (hL : L' ≤ L) : GrF w L' v n xs := by
  obtain ⟨hl, hc⟩ := h
  refine ⟨hl, ?_⟩
  obtain hc | ⟨g, cap, cur, h1, h2, h3⟩ := hc
  · exact .inl hc
  · exact .inr ⟨g, cap, cur, h1, Nat.le_trans hL h2, h3⟩

/-- What AppendSeq keeps between two rounds. -/
def AI (w : World) (pre : List (Int × Int)) (W : World) : Prop :=
  Below w.heap.size w W ∧ w.heap.size + 1 ≤ W.heap.size ∧ ∃ v, Box W w.heap.size [v] ∧ GrF W (w.heap.size + 5) v pre.length (flatQ pre)
set_option maxRecDepth 100000 in
set_option maxHeartbeats 4000000 in
theorem appendSeq_is {gf : Nat} {lb : Array Value} (eg : ∀ args w, (callFunc gf args).run Try.prog w = .ok (.enter gf args) w) {Kb : Nat → Prop} {Nx : List (Int × Int) → (Int × Int) → Prop} {S Sp : List (Int × Int) → Prop} (w : World)
    (hseq : SeqC Try.prog gf lb encF Kb Nx S Sp w) (hKb : ∀ b, Kb b → b < w.heap.size) (hN : ∀ pre x, Nx pre x → pre.length ≤ 1000000) :
    Calls Try.prog 19 #[.slice none 0 0, .func (.func gf) #[] lb] w fun e w' => ∃ v ys, e = .returned v ∧ S ys ∧ GrF w' w.heap.size v ys.length (flatQ ys) ∧ Below w.heap.size w w' := by
  refine (callsIn_wide (n := 3)).1 ?_
  have hro : Fence.wide.round = none := rfl
  refine callsIn_of_wp_marks Try.func19 rfl trivial ?_ hro
  simp only [Try.ntmps19, List.size_toArray, List.length_cons, List.length_nil, Nat.reduceAdd, Nat.reduceSub, Array.replicate_succ, Array.replicate_zero, List.push_toArray, List.append_toArray, List.nil_append, List.cons_append]
  gi_wp2_with fail
  obtain ⟨W3, hW3⟩ : ∃ W3, w.alloc (.cells #[.slice none 0 0] 23) = W3 := ⟨_, rfl⟩
  have hs3 : W3.heap.size = w.heap.size + 1 := by rw [← hW3]; simp
  have T3 : Below w.heap.size w W3 := by rw [← hW3]; repeat (first | with_reducible exact own_refl _ | with_reducible assumption | with_reducible apply own_alloc | with_reducible apply own_drewN | with_reducible apply own_drew | ((with_reducible refine own_setCell ?_ ?_ _); rotate_left; focus (first | (simp; done) | (simp; omega))) | (with_reducible (refine own_trans ?_ (by assumption))))
  have I3 : AI w [] W3 := ⟨T3, by omega, _, by rw [← hW3]; exact Box.new _ _ _, GrF.nil _ _⟩
  rw [hW3]
  clear hW3
  have OI : OwnC W3.heap.size (W3.heap.size + 4) (AI w) := by
    rintro s X Y row ⟨h1, h2, v, h3, h4⟩ hg hr
    rw [hs3] at hr
    exact ⟨below_ownC h1 hg hr (by omega) (by omega), Nat.le_trans h2 hg.size, v, h3.ownC hg hr (by omega), h4.ownC hg hr (by omega)⟩
  refine rangeC (gf := gf) (lb := lb) rfl eg hseq T3 (fun k hk => by have := hKb k hk; omega) (fun _ => rfl)
    (AI w) (fun _ _ _ => False) OI (fun _ _ _ _ _ h _ _ => h) I3 (fun x a' W => ∃ g, W3.heap.size + 4 ≤ g ∧ Box W g [.int .i64 x.1, .int .i64 x.2] ∧ a' = { tmps := #[.slice none 0 0, .func (.func gf) #[] lb, .pointer (some ⟨w.heap.size, 0, none⟩), undef, .slice none 0 0, .pointer (some ⟨g, 0, none⟩), .func (.func gf) #[] lb, (.agg #[.int .i64 x.1, .int .i64 x.2]), undef, undef, undef, undef, undef], defers := [] }) ?hAx ?assign ?body ?done ?stop
  case hAx =>
    rintro x s X Y row ⟨g, h1, h2, h3⟩ hg hr
    exact ⟨g, h1, h2.ownC hg hr (by omega), h3⟩
  case assign =>
    rintro l pre x W K hI hz hK
    simp only [encF]
    gi_wp2
    exact hK _ _ (KeepC.grown (World.grownBy_alloc _ _ none) (fun r e => by cases e)) (OI.alloc hI _) ⟨W.heap.size, hz, Box.new _ _ _, rfl⟩
  case body =>
    rintro l pre x a' W hI ⟨g, hg, hB, rfl⟩ hz hnx
    obtain ⟨T, hsz, v, B0, G⟩ := hI
    obtain ⟨x0, x1⟩ := x
    obtain ⟨_, g0, g1, _, _⟩ := hB.two
    obtain ⟨_, hv0, hv1⟩ := B0.one
    obtain ⟨ad, cap, hv⟩ := G.shape
    subst hv
    have hlen := hN _ _ hnx
    simp only at g0 g1
    gi_wp2_with (gi_at_builtin; refine appFI rfl _ _ rfl (w.heap.size + 5) W (.slice ad pre.length cap) pre.length (flatQ pre) x0 x1 rfl G W.heap.size rfl rfl (by omega) (by omega) ?_; intro v' w6 hG6 hg6; obtain ⟨ad', cap', rfl⟩ := hG6.shape; have hz6 : W.heap.size + 1 ≤ w6.heap.size := (by have := hg6.size; simpa using this); have hk6 : w6.heap[w.heap.size]? = W.heap[w.heap.size]? := (hg6.block _ (by simp; omega) (fun e => by have := G.own_ge e.symm; omega)).trans (Below.heap_alloc _ _ _ B0.1); have B6 := B0.of_heap hk6 (by omega); obtain ⟨_, hw0, hw1⟩ := B6.one)
    have hgo : ∀ g', (Value.slice ad pre.length cap).ownBlock = some g' → w.heap.size + 5 ≤ g' := fun g' e => G.own_ge e
    refine ⟨((KeepC.grown (World.grownBy_alloc _ _ none) (fun r e => by cases e)).trans (KeepC.grown hg6 fun r e => ?_)).trans (KeepC.grown (grownBy_set _ _ _) fun r e => ?_), ?_, by simp; omega, _, Box.set B6 0 (by simp) _, ?_⟩
    · have h1 := hgo r e
      rintro (h | h)
      · have := hKb r h; omega
      · omega
    · simp only [Option.some.injEq] at e
      rintro (h | h)
      · have := hKb r h; omega
      · omega
    · exact own_setCell ((own_alloc T _).grown hg6 (by simp; omega) (fun k e => by have := hgo k e; omega)) (Nat.le_refl _) _
    · rw [flatQ_snoc, List.length_append]
      exact hG6.far (p := ⟨w.heap.size, 0, none⟩) (fun g' e => by have := hG6.own_ge e; dsimp only; omega) _
  case done =>
    rintro ys W hS hI hD
    obtain ⟨T, hsz, v, B0, G⟩ := hI
    obtain ⟨_, hv0, hv1⟩ := B0.one
    gi_wp2
    rw [hs3] at hD ⊢
    refine ⟨by simp, .inl ⟨_, _, rfl, run_takeDeferred hD, ?_⟩⟩
    exact ⟨_, by simp [results, Try.results19, go_sem], v, ys, rfl, hS, (G.ownC (grownBy_putObj' W (w.heap.size + 1) (.deferred none)) (B := w.heap.size + 1) (U := w.heap.size + 5) (fun r e => by cases e; omega) (Nat.le_refl _)).weakC (by omega), T.grown (grownBy_putObj' _ _ _) T.size (fun k e => by cases e; omega)⟩
  case stop =>
    rintro c pre W hpre hI hD
    exact hI.elim
end Go.Proofs.Ytejghidllochoaa
