/- slices.AppendSeq over an iterator with two boxes of its own, behind a list that lies already. -/
import Derived.Test.YtejghidllochoaaCol
import Derived.Maps.OwnIn
import Derived.Test.YtejghidllochoaaCvO
import Derived.Test.YtejghidllochoaaCfS
import Derived.Test.YtejghidllochoaaIsF
import Derived.Test.YtejghidllochoaaDet
import Derived.Test.YtejghidllochoaaSS
namespace Go.Proofs.Ytejghidllochoaa
open Go.ChangeShapes Go.WideShapes Go.ChangeAt Go.RowKit Go.Shelf
attribute [local go_sem] Oper.semAt_some

/-- 'xs = append(xs, y)' in a round: the list's block is the old one or the next one. -/
theorem appFIAt {F : Fence} {m : Nat} {ops : Array Oper} {rest : List Oper} {ob : Oper} {a : Act} {Q : Exit → Act → World → Prop} (hgd : ob.guard = none) (s x : Operand)
    (ho : ob.op = .call { callee := .builtin .append, args := #[s, x], argTypes := #[23, 23] })
    (L : Nat) (w : World) (v : Value) (n : Nat) (xs : List Int) (y0 y1 : Int) (hs : a.eval s = v) (hown : GrF w L v n xs) (g : Nat) (hx : a.eval x = .slice (some ⟨g, 0, none⟩) 1 1)
    (hg : w.heap.size = g) (hlen : n ≤ 1000000000) (hL : L ≤ w.heap.size)
    (h : ∀ v' w', GrF w' L v' (n + 1) (xs ++ [y0, y1]) → (w.alloc (.cells #[.int .i64 y0, .int .i64 y1] 26)).grownBy w' v.ownBlock → (v'.ownBlock = v.ownBlock ∨ v'.ownBlock = some (w.heap.size + 1)) → wpListIn F m Try.prog ops Q rest (a.put ob.dst v') w') : wpListIn F m Try.prog ops Q (ob :: rest) a (w.alloc (.cells #[.int .i64 y0, .int .i64 y1] 26)) := by
  obtain ⟨i0, hi, hz0, hz1, hz2⟩ := info_parts info_elF
  subst hg
  refine wpListIn_append_own_at _ hgd s x 23 ho L 26 i0 (.agg #[.int .i64 0, .int .i64 0]) 2 16 Try.underlying23 hi hz0 hz1 hz2 rfl (by decide) v n _ hs (GrF.alloc hown _) ⟨w.heap.size, 0, none⟩ 1 1 [.int .i64 y0, .int .i64 y1] hx rfl ?_ ?_ ?_ ?_ ?_ ?_
  · intro j u hj
    match j, hj with
    | 0, hj => simp at hj; subst hj; simp [Addr.add]
    | 1, hj => simp at hj; subst hj; simp [Addr.add]
  · intro u hu
    simp only [List.mem_cons, List.not_mem_nil, or_false] at hu
    rcases hu with rfl | rfl <;> rfl
  · unfold maxLen; omega
  · omega
  · simp; omega
  · intro v' w' hown' hgrow _ hat
    refine h v' w' ?_ hgrow (by simpa using hat)
    unfold GrF
    rw [List.map_append]
    exact hown'
/-- What AppendSeq keeps between two rounds. -/
def AJ (w : World) (L g0 n0 : Nat) (xs0 : List Int) (pre : List (Int × Int)) (W : World) : Prop :=
  Below L w W ∧ w.heap.size + 1 ≤ W.heap.size ∧ ∃ v, Box W w.heap.size [v] ∧ GrF W L v (n0 + pre.length) (xs0 ++ flatQ pre) ∧ ∀ g, v.ownBlock = some g → g = g0 ∨ w.heap.size + 5 ≤ g
theorem GrF.ownJ {W W' : World} {L n B g0 : Nat} {v : Value} {xs : List Int} {row : Option Nat} (h : GrF W L v n xs) (hg : W.grownBy W' row) (hr : ∀ r, row = some r → B + 1 ≤ r ∧ r < B + 5) (hg0 : g0 < B) (hv : ∀ g, v.ownBlock = some g → g = g0 ∨ B + 5 ≤ g) : GrF W' L v n xs := by
  refine World.ownsRow.kept h hg ?_
  rcases e : v.ownBlock with _ | k
  · exact .inl rfl
  · exact .inr fun he => by have := hr k he.symm; have := hv k e; omega
set_option maxRecDepth 100000 in
set_option maxHeartbeats 4000000 in
theorem appendSeq_on {gf : Nat} {lb : Array Value} (eg : ∀ args w, (callFunc gf args).run Try.prog w = .ok (.enter gf args) w) {Kb : Nat → Prop} {Nx : List (Int × Int) → (Int × Int) → Prop} {S Sp : List (Int × Int) → Prop} (w : World)
    (hseq : SeqC Try.prog gf lb encF Kb Nx S Sp w) (hKb : ∀ b, Kb b → b < w.heap.size) (hN : ∀ pre x, Nx pre x → pre.length ≤ 1000000) (v0 : Value) (L g0 n0 : Nat) (xs0 : List Int) (hn0 : n0 ≤ 1000) (hL : L ≤ g0) (hv0 : v0.ownBlock = some g0) (hk0 : ¬ Kb g0) (hG0 : GrF w L v0 n0 xs0) :
    Calls Try.prog 19 #[v0, .func (.func gf) #[] lb] w fun e w' => ∃ v ys, e = .returned v ∧ S ys ∧ GrF w' L v (n0 + ys.length) (xs0 ++ flatQ ys) ∧ Below L w w' := by
  have hg0 : g0 < w.heap.size := (World.ownsRow.lt hG0 g0 hv0).2
  refine (callsIn_wide (n := 3)).1 ?_
  have hro : Fence.wide.round = none := rfl
  refine callsIn_of_wp_marks Try.func19 rfl trivial ?_ hro
  simp only [Try.ntmps19, List.size_toArray, List.length_cons, List.length_nil, Nat.reduceAdd, Nat.reduceSub, Array.replicate_succ, Array.replicate_zero, List.push_toArray, List.append_toArray, List.nil_append, List.cons_append]
  obtain ⟨ad0, cp0, hvs⟩ := hG0.shape
  subst hvs
  gi_wp2_with fail
  obtain ⟨W3, hW3⟩ : ∃ W3, w.alloc (.cells #[.slice ad0 n0 cp0] 23) = W3 := ⟨_, rfl⟩
  have hs3 : W3.heap.size = w.heap.size + 1 := by rw [← hW3]; simp
  have T3 : Below w.heap.size w W3 := by rw [← hW3]; repeat (first | with_reducible exact own_refl _ | with_reducible assumption | with_reducible apply own_alloc | with_reducible apply own_drewN | with_reducible apply own_drew | ((with_reducible refine own_setCell ?_ ?_ _); rotate_left; focus (first | (simp; done) | (simp; omega))) | (with_reducible (refine own_trans ?_ (by assumption))))
  have I3 : AJ w L g0 n0 xs0 [] W3 := ⟨T3.mono (by omega), by omega, _, by rw [← hW3]; exact Box.new _ _ _, by rw [← hW3]; simpa [flatQ] using hG0.alloc _, fun g e => .inl (by rw [hv0] at e; injection e with e; exact e.symm)⟩
  rw [hW3]
  clear hW3
  have OI : OwnC W3.heap.size (W3.heap.size + 4) (AJ w L g0 n0 xs0) := by
    rintro s X Y row ⟨h1, h2, v, h3, h4, h5⟩ hg hr
    rw [hs3] at hr
    exact ⟨h1.grown hg (by omega) (fun k e => by have := hr k e; omega), Nat.le_trans h2 hg.size, v, h3.ownC hg hr (by omega), h4.ownJ hg (fun r e => by have := hr r e; omega) hg0 h5, h5⟩
  refine rangeC (gf := gf) (lb := lb) rfl eg hseq T3 (fun k hk => by have := hKb k hk; omega) (fun _ => rfl)
    (AJ w L g0 n0 xs0) (fun _ _ _ => False) OI (fun _ _ _ _ _ h _ _ => h) I3 (fun x a' W => ∃ g, W3.heap.size + 4 ≤ g ∧ Box W g [.int .i64 x.1, .int .i64 x.2] ∧ a' = { tmps := #[.slice ad0 n0 cp0, .func (.func gf) #[] lb, .pointer (some ⟨w.heap.size, 0, none⟩), undef, .slice none 0 0, .pointer (some ⟨g, 0, none⟩), .func (.func gf) #[] lb, (.agg #[.int .i64 x.1, .int .i64 x.2]), undef, undef, undef, undef, undef], defers := [] }) ?hAx ?assign ?body ?done ?stop
  case hAx =>
    rintro x s X Y row ⟨g, h1, h2, h3⟩ hg hr
    exact ⟨g, h1, h2.ownC hg hr (by omega), h3⟩
  case assign =>
    rintro l pre x W K hI hz hK
    simp only [encF]
    gi_wp2
    exact hK _ _ (KeepC.grown (World.grownBy_alloc _ _ none) (fun r e => by cases e)) (OI.alloc hI _) ⟨W.heap.size, hz, Box.new _ _ _, rfl⟩
  case body =>
    rintro l pre x a' W hI ⟨g, hg, hB, rfl⟩ hz hnx
    obtain ⟨T, hsz, v, B0, G, hvb⟩ := hI
    obtain ⟨x0, x1⟩ := x
    obtain ⟨_, q0, q1, _, _⟩ := hB.two
    obtain ⟨_, hv0', hv1⟩ := B0.one
    obtain ⟨ad, cap, hv⟩ := G.shape
    subst hv
    have hlen := hN _ _ hnx
    simp only at q0 q1
    gi_wp2_with (gi_at_builtin; refine appFIAt rfl _ _ rfl L W (.slice ad (n0 + pre.length) cap) (n0 + pre.length) (xs0 ++ flatQ pre) x0 x1 rfl G W.heap.size rfl rfl (by omega) (by omega) ?_; intro v' w6 hG6 hg6 hat6; obtain ⟨ad', cap', rfl⟩ := hG6.shape; have hz6 : W.heap.size + 1 ≤ w6.heap.size := (by have := hg6.size; simpa using this); have hk6 : w6.heap[w.heap.size]? = W.heap[w.heap.size]? := (hg6.block _ (by simp; omega) (fun e => by have := hvb _ e.symm; omega)).trans (Below.heap_alloc _ _ _ B0.1); have B6 := B0.of_heap hk6 (by omega); obtain ⟨_, hw0, hw1⟩ := B6.one)
    have hvb6 : ∀ g, (Value.slice ad' (n0 + pre.length + 1) cap').ownBlock = some g → g = g0 ∨ w.heap.size + 5 ≤ g := fun g' e => by
      rcases hat6 with h | h
      · exact hvb g' (by rw [← h]; exact e)
      · rw [h] at e; injection e with e; omega
    refine ⟨((KeepC.grown (World.grownBy_alloc _ _ none) (fun r e => by cases e)).trans (KeepC.grown hg6 fun r e => ?_)).trans (KeepC.grown (grownBy_set _ _ _) fun r e => ?_), ?_, by simp; omega, _, Box.set B6 0 (by simp) _, ?_, ?_⟩
    · have h1 := hvb r e
      rintro (h | h)
      · have := hKb r h
        rcases h1 with rfl | h1
        · exact hk0 h
        · omega
      · omega
    · simp only [Option.some.injEq] at e
      rintro (h | h)
      · have := hKb r h; omega
      · omega
    · exact (((Below.refl L W).alloc (by have := T.size; omega) _).grown hg6 (by simp; have := T.size; omega) (fun k e => by have := hvb k e; omega) |> T.trans).setCell (by dsimp only; omega) _
    · rw [flatQ_snoc, List.length_append, ← List.append_assoc, ← Nat.add_assoc]
      exact hG6.far (p := ⟨w.heap.size, 0, none⟩) (fun g' e => by have := hvb6 g' e; dsimp only; omega) _
    · exact hvb6
  case done =>
    rintro ys W hS hI hD
    obtain ⟨T, hsz, v, B0, G, hvb⟩ := hI
    obtain ⟨_, hv0', hv1⟩ := B0.one
    gi_wp2
    rw [hs3] at hD ⊢
    refine ⟨by simp, .inl ⟨_, _, rfl, run_takeDeferred hD, ?_⟩⟩
    exact ⟨_, by simp [results, Try.results19, go_sem], v, ys, rfl, hS, G.ownJ (grownBy_putObj' W (w.heap.size + 1) (.deferred none)) (fun r e => by cases e; omega) hg0 hvb, T.grown (grownBy_putObj' _ _ _) (by have := T.size; omega) (fun k e => by cases e; omega)⟩
  case stop =>
    rintro c pre W hpre hI hD
    exact hI.elim
end Go.Proofs.Ytejghidllochoaa
/- ChainOfFraction: contracts of both sides. -/
namespace Go.Proofs.Ytejghidllochoaa
open Go.ChangeShapes Go.WideShapes Go.ChangeAt Go.RowKit

theorem wrapEq (x : Int) : IntKind.i64.wrap x = wrap64 x := by simp [IntKind.wrap_i64, wrap64]
theorem isF_isC (r : Bool) (p q : Int) (h : isF p q = r) (w : World) : Calls Try.prog 18 #[(.agg #[.int .i64 p, .int .i64 q])] w fun e w' => e = .returned (.bool r) ∧ Below w.heap.size w w' := h ▸ implIsF_any p q w
theorem chainFun (ad : Option Addr) (m cap : Nat) (w : World) :
    Calls Try.prog 20 #[.slice ad m cap] w fun e w' => e = .returned (.func (.func 37) #[] #[.pointer (some ⟨w.heap.size, 0, none⟩)]) ∧ w' = w.alloc (.cells #[.slice ad m cap] 31) := by
  go_enter Try.func20, Try.ntmps20
  go_wp2
  go_ret
  exact ⟨rfl, rfl⟩
/-- the chain, flat -/
def chQ (xs : List Int) : List Int := [1, 0] ++ flatQ (cvs xs)
/-- What ChainOfFraction gives. -/
def RetQ (n : Nat) (xs : List Int) (k : Int) (w : World) (e : Ending) (w' : World) : Prop :=
  ∃ v, e = .returned (.tuple #[v, (.int .i64 k)]) ∧ SlF w' w.heap.size w'.heap.size v n xs ∧ Below w.heap.size w w'
def capV : Value → Nat
  | .slice _ _ c => c
  | _ => 0
theorem GrF.capV {w : World} {L n : Nat} {v : Value} {xs : List Int} (h : GrF w L v n xs) : n ≤ capV v := by
  obtain ⟨_, ⟨rfl, h0⟩ | ⟨g, cap, cur, rfl, hg, hh, hn, hr⟩⟩ := h
  · show n ≤ 0
    omega
  · show n ≤ cap
    omega
/-- .. and its capacity. -/
def RetQc (n : Nat) (xs : List Int) (k : Int) (w : World) (e : Ending) (w' : World) : Prop :=
  ∃ v, e = .returned (.tuple #[v, (.int .i64 k)]) ∧ SlF w' w.heap.size w'.heap.size v n xs ∧ Below w.heap.size w w' ∧ n ≤ capV v
theorem implCh_no (p q : Int) (h : isF p q = false) (w : World) : Calls Try.prog 7 #[(.agg #[.int .i64 p, .int .i64 q])] w (RetQ 0 [] 1 w) := by
  have H := Lib.hid h
  clear h
  go_enter Try.func7, Try.ntmps7
  go_wp2_with fail
  refine (isF_isC false _ _ H.out _).mono ?_
  rintro e w1 ⟨rfl, hb1⟩
  go_wp2
  go_ret2
  exact ⟨_, rfl, (GrF.nil _ _).sl, by repeat (first | with_reducible exact own_refl _ | with_reducible assumption | with_reducible apply own_alloc | with_reducible apply own_drewN | with_reducible apply own_drew | ((with_reducible refine own_setCell ?_ ?_ _); rotate_left; focus (first | (simp; done) | (simp; omega))) | (with_reducible (refine own_trans ?_ (by assumption))))⟩
theorem one_frac (w : World) (L : Nat) (hL : L ≤ w.heap.size) : GrF (w.alloc (.cells #[.int .i64 1, .int .i64 0] 26)) L (.slice (some ⟨w.heap.size, 0, none⟩) 1 1) 1 [1, 0] :=
  World.ownsRow_lit w #[.int .i64 1, .int .i64 0] 1 hL (by unfold maxLen; omega) rfl
theorem implChc_inf (p q : Int) (h : isF p q = true) (hq : q = 0) (w : World) : Calls Try.prog 7 #[(.agg #[.int .i64 p, .int .i64 q])] w (RetQc 1 [1, 0] 0 w) := by
  subst hq
  have H := Lib.hid h
  clear h
  go_enter Try.func7, Try.ntmps7
  go_wp2_with fail
  refine (isF_isC true _ _ H.out _).mono ?_
  rintro e w1 ⟨rfl, hb1⟩
  have A1 : Box w1 w.heap.size [.int .i64 p, .int .i64 0] := Box.below (Box.new _ _ _) hb1
  have T1 : Below w.heap.size w w1 := by repeat (first | with_reducible exact own_refl _ | with_reducible assumption | with_reducible apply own_alloc | with_reducible apply own_drewN | with_reducible apply own_drew | ((with_reducible refine own_setCell ?_ ?_ _); rotate_left; focus (first | (simp; done) | (simp; omega))) | (with_reducible (refine own_trans ?_ (by assumption))))
  have G1 := one_frac w1 w.heap.size T1.size
  have A2 := A1.alloc (.cells #[.int .i64 1, .int .i64 0] 26)
  obtain ⟨_, _, _, _, _⟩ := A2.two
  go_wp2
  go_ret2
  exact ⟨_, rfl, G1.sl, own_alloc T1 _, G1.capV⟩
theorem implCh_inf (p q : Int) (h : isF p q = true) (hq : q = 0) (w : World) : Calls Try.prog 7 #[(.agg #[.int .i64 p, .int .i64 q])] w (RetQ 1 [1, 0] 0 w) :=
  (implChc_inf p q h hq w).mono fun _ _ ⟨v, a, b, c, _⟩ => ⟨v, a, b, c⟩
set_option maxHeartbeats 1000000 in
theorem implChc_yes (p q : Int) (h : isF p q = true) (hq : 0 < q) (xs : List Int) (hx : cfL q.natAbs p q = xs) (hn : xs.length ≤ 1000000) (w : World) : Calls Try.prog 7 #[(.agg #[.int .i64 p, .int .i64 q])] w (RetQc (1 + xs.length) (chQ xs) 0 w) := by
  have H := Lib.hid h
  have hE := isF_ent h
  have HQ := Lib.hid (fun w => (hx ▸ implCf_any q.natAbs p q hE.1 hE.2.1 hq (Nat.le_refl _) (by have := hE.2.1; unfold Ent at this; omega) w : Calls Try.prog 21 #[(.agg #[.int .i64 p, .int .i64 q])] w fun e w' => ∃ v, e = .returned v ∧ Gr w' (w.heap.size + 1) v xs ∧ Below w.heap.size w w'))
  have hq0 : (q == 0) = false := by simp; omega
  have hx0 : 0 < xs.length := by
    rw [← hx]
    obtain ⟨k, n, r, e1, _, _, _, _, _, _, h2, _⟩ := cf_round hq hE.1 hE.2.1 (Nat.le_refl q.natAbs)
    rw [h2.out]
    simp
  clear h hE hq hx
  go_enter Try.func7, Try.ntmps7
  go_wp2_with fail
  refine (isF_isC true _ _ H.out _).mono ?_
  rintro e w1 ⟨rfl, hb1⟩
  have A1 : Box w1 w.heap.size [.int .i64 p, .int .i64 q] := Box.below (Box.new _ _ _) hb1
  have T1 : Below w.heap.size w w1 := by repeat (first | with_reducible exact own_refl _ | with_reducible assumption | with_reducible apply own_alloc | with_reducible apply own_drewN | with_reducible apply own_drew | ((with_reducible refine own_setCell ?_ ?_ _); rotate_left; focus (first | (simp; done) | (simp; omega))) | (with_reducible (refine own_trans ?_ (by assumption))))
  have G1 := one_frac w1 w.heap.size T1.size
  have A2 := A1.alloc (.cells #[.int .i64 1, .int .i64 0] 26)
  obtain ⟨_, _, _, _, _⟩ := A2.two
  go_wp2_with fail
  refine (HQ.out _).mono ?_
  rintro e w2 ⟨v, rfl, hG, hb2⟩
  have T2 : Below w.heap.size w w2 := own_trans (own_alloc T1 _) hb2
  have G2 := G1.own hb2
  obtain ⟨ad, cap, rfl⟩ := hG.shape
  obtain ⟨gq, rfl, hgq, hgq2, hcell⟩ := hG.cellsZ hx0
  simp only [World.size_alloc] at hgq
  have HCL := Lib.hid hcell
  clear hcell hG
  go_wp2_with fail
  refine (chainFun _ _ _ _).mono ?_
  rintro e w3 ⟨rfl, rfl⟩
  have HA := Lib.hid (appendSeq_on (fun _ _ => by kernel_rfl) (w2.alloc (.cells #[.slice (some ⟨gq, 0, none⟩) xs.length cap] 31)) (convSeq xs hn (some ⟨gq, 0, none⟩) cap w2.heap.size gq 0 (fun _ => rfl) (fun k => k = gq) rfl _ (Box.new _ _ _) (fun k hk => ⟨by simp; omega, by rw [Nat.zero_add]; exact ((own_alloc (own_refl w2) _).cell (p := ⟨gq, k, none⟩) hgq2).trans (HCL.out k hk).1⟩)) (fun k hk => by simp; omega) (fun pre x h => by
    have := h.length_le; rw [List.length_append, cvs_len] at this; omega) (.slice (some ⟨w1.heap.size, 0, none⟩) 1 1) w.heap.size w1.heap.size 1 [1, 0] (by omega) T1.size rfl (by omega) (G2.alloc _))
  go_wp2_with fail
  refine HA.out.mono ?_
  rintro e w4 ⟨v4, ys, rfl, rfl, hG4, hb4⟩
  rw [cvs_len] at hG4
  go_wp2
  go_ret2
  exact ⟨v4, rfl, hG4.sl, (own_alloc T2 _).trans hb4, hG4.capV⟩
theorem implCh_yes (p q : Int) (h : isF p q = true) (hq : 0 < q) (xs : List Int) (hx : cfL q.natAbs p q = xs) (hn : xs.length ≤ 1000000) (w : World) : Calls Try.prog 7 #[(.agg #[.int .i64 p, .int .i64 q])] w (RetQ (1 + xs.length) (chQ xs) 0 w) :=
  (implChc_yes p q h hq xs hx hn w).mono fun _ _ ⟨v, a, b, c, _⟩ => ⟨v, a, b, c⟩
/-- the chain is bounded -/
theorem cst_okQ {xs done : List Int} {n : Int} (hall : (cvs xs).all okQ = true) (hp : done ++ [n] <+: xs) : Ent (cst (done ++ [n])).2.1 ∧ Ent (cst (done ++ [n])).2.2 := by
  obtain ⟨t, rfl⟩ := hp
  have h1 : cvs (done ++ [n]) <+: cvs (done ++ [n] ++ t) := by
    have := cvs_prefix (done ++ [n] ++ t) (done ++ [n]).length
    rwa [List.take_left] at this
  have h2 : (cst (done ++ [n])).2 ∈ cvs (done ++ [n] ++ t) := h1.subset (by rw [cvs_snoc]; simp)
  have h3 := List.all_eq_true.1 hall _ h2
  simpa [okQ, inW, Ent] using h3
set_option maxRecDepth 100000 in
set_option maxHeartbeats 4000000 in
theorem l08Chain_is (p0 q0 : Int) (h : isF p0 q0 = true) (xs : List Int) (hx : cfL q0.natAbs p0 q0 = xs) (w : World) :
    Calls Try.prog 17 #[(.agg #[.int .i64 p0, .int .i64 q0])] w fun e w' => ∃ v, e = .returned v ∧ GrF w' w.heap.size v (1 + xs.length) (chQ xs) ∧ Below w.heap.size w w' := by
  have hE := isF_ent h
  have hall := cv_fine q0.natAbs p0 q0 hE.1 hE.2.1 hE.2.2.1
  rw [hx] at hall
  have HA := Lib.hid hall
  have HX := Lib.hid hx
  have HE0 := Lib.hid (show Ent p0 ∧ Ent q0 ∧ 0 ≤ q0 from ⟨hE.1, hE.2.1, hE.2.2.1⟩)
  have hF : q0.natAbs ≤ 1000000000 := by have := hE.2.1; unfold Ent at this; omega
  clear h hE hall hx
  go_enter Try.func17, Try.ntmps17
  go_wp2
  have G1 : GrF ((w.alloc (.cells #[.int .i64 p0, .int .i64 q0] 26)).alloc (.cells #[.int .i64 1, .int .i64 0] 26)) w.heap.size (.slice (some ⟨w.heap.size + 1, 0, none⟩) 1 1) 1 [1, 0] := by
    have := one_frac (w.alloc (.cells #[.int .i64 p0, .int .i64 q0] 26)) w.heap.size (by simp)
    rwa [World.size_alloc] at this
  have T1 : Below w.heap.size w ((w.alloc (.cells #[.int .i64 p0, .int .i64 q0] 26)).alloc (.cells #[.int .i64 1, .int .i64 0] 26)) := by repeat (first | with_reducible exact own_refl _ | with_reducible assumption | with_reducible apply own_alloc | with_reducible apply own_drewN | with_reducible apply own_drew | ((with_reducible refine own_setCell ?_ ?_ _); rotate_left; focus (first | (simp; done) | (simp; omega))) | (with_reducible (refine own_trans ?_ (by assumption))))
  have A1 : Box ((w.alloc (.cells #[.int .i64 p0, .int .i64 q0] 26)).alloc (.cells #[.int .i64 1, .int .i64 0] 26)) w.heap.size [.int .i64 p0, .int .i64 q0] := Box.alloc (Box.new _ _ _) _
  generalize (w.alloc (.cells #[.int .i64 p0, .int .i64 q0] 26)).alloc (.cells #[.int .i64 1, .int .i64 0] 26) = W at *
  obtain ⟨_, _, _, _, _⟩ := A1.two
  go_upto_region 4 with fail
  go_quiet (fail)
  have G1 : GrF (W.drewN nq) w.heap.size (.slice (some ⟨w.heap.size + 1, 0, none⟩) 1 1) 1 [1, 0] := G1
  have T1 : Below w.heap.size w (W.drewN nq) := below_drewN' T1 nq
  clear A1
  generalize W.drewN nq = W2 at *
  go_wp2
  go_loopw [3, 4, 5, 6, 7, 8, 9] (fun v a b c d x y wr => ∃ (done : List Int) (f : Nat) (b0 b1 f0 f1 p q : Int), a = (.int .i64 b0) ∧ b = (.int .i64 b1) ∧ c = (.int .i64 f0) ∧ d = (.int .i64 f1) ∧ x = (.int .i64 p) ∧ y = (.int .i64 q) ∧ Hid (xs = done ++ cfL f p q) ∧ Hid (cst done = ((b0, b1), (f0, f1))) ∧ Hid (Ent p ∧ Ent q ∧ 0 ≤ q) ∧ Hid (Ent b0 ∧ Ent b1 ∧ Ent f0 ∧ Ent f1) ∧ Hid (q.natAbs ≤ f) ∧ f + done.length ≤ q0.natAbs ∧ GrF wr w.heap.size v (1 + done.length) (chQ done) ∧ Below w.heap.size w wr) (fun v _ _ _ _ _ _ _ => q0.natAbs + 1 - lenOf v)
  case atStart => exact ⟨[], q0.natAbs, 0, 1, 1, 0, p0, q0, rfl, rfl, rfl, rfl, rfl, rfl, Lib.hid HX.out.symm, Lib.hid rfl, HE0, Lib.hid (by unfold Ent; omega), Lib.hid (Nat.le_refl _), by simp, G1, T1⟩
  case round =>
    obtain ⟨done, f, b0, b1, f0, f1, p, q, rfl, rfl, rfl, rfl, rfl, rfl, HL, HC, HE, HB, HF, hlen, hG, T⟩ := hrel
    obtain ⟨ad, cap, hv⟩ := hG.shape
    subst hv
    by_cases hq0 : 0 < q
    · obtain ⟨k, n, r, hfk, hnn, hr, en, r1, r2, er, H1, H2⟩ := cf_round hq0 HE.out.1 HE.out.2.1 HF.out
      have hpre : done ++ [n] <+: xs := by rw [HL.out, H1.out]; exact ⟨cfL k q r, by simp⟩
      have hok := cst_okQ HA.out hpre
      have hst : cst (done ++ [n]) = ((f0, f1), stepC (b0, b1) (f0, f1) n) := by rw [cst_snoc, HC.out]
      have hcv : cvs (done ++ [n]) = cvs done ++ [(cst (done ++ [n])).2] := cvs_snoc done n
      obtain ⟨y0, hy0⟩ : ∃ y0, wrap64 (wrap64 (n * f0) + b0) = y0 := ⟨_, rfl⟩
      obtain ⟨y1, hy1⟩ : ∃ y1, wrap64 (wrap64 (n * f1) + b1) = y1 := ⟨_, rfl⟩
      have hst2 : stepC (b0, b1) (f0, f1) n = (y0, y1) := by unfold stepC; rw [hy0, hy1]
      rw [hst2] at hst
      rw [hst] at hok hcv
      have HST := Lib.hid hst
      have HCV : Hid (chQ (done ++ [n]) = chQ done ++ [y0, y1]) := Lib.hid (by unfold chQ; rw [hcv, flatQ_snoc, List.append_assoc])
      have HOK := Lib.hid hok
      have HN := Lib.hid hnn
      have HK := Lib.hid hfk
      have HQ := Lib.hid hq0
      have h2 := Lib.hid H2
      have HL2 : Hid (xs = (done ++ [n]) ++ cfL k q r) := Lib.hid (by rw [HL.out, H1.out]; simp)
      have hqne : (q != 0) = true := by simp; omega
      have hb1 : -2000000000 ≤ n * q ∧ n * q ≤ 2000000000 := by have h1 := HE.out.1; have h2 := HE.out.2.1; unfold Ent at h1 h2; omega
      obtain ⟨_, _⟩ := hb1
      have HP := HE.out.1
      unfold Ent at HP er en
      obtain ⟨_, _⟩ := HP
      obtain ⟨_, _⟩ := er
      obtain ⟨_, _⟩ := en
      have hwy0 : IntKind.i64.wrap (IntKind.i64.wrap (n * f0) + b0) = y0 := by rw [wrapEq, wrapEq, hy0]
      have hwy1 : IntKind.i64.wrap (IntKind.i64.wrap (n * f1) + b1) = y1 := by rw [wrapEq, wrapEq, hy1]
      clear hfk hnn H2 hpre hok hst hcv hst2
      go_wp2_with fail
      refine (floorE_is p q n HN.out HQ.out HE.out.1 HE.out.2.1 _).mono ?_
      rintro e w2 ⟨rfl, rfl⟩
      have hz := T.size
      have hGa := hG.alloc (.cells #[.int .i64 y0, .int .i64 y1] 26)
      have hBn : Box (wr.alloc (.cells #[.int .i64 y0, .int .i64 y1] 26)) wr.heap.size [.int .i64 y0, .int .i64 y1] := Box.new _ _ _
      have hTa := own_alloc T (.cells #[.int .i64 y0, .int .i64 y1] 26)
      have HCL := Lib.hid hG
      clear hG
      go_upto_region 7 with fail
      have hzn : (wr.alloc (.cells #[.int .i64 y0, .int .i64 y1] 26)).heap.size = wr.heap.size + 1 := by simp
      generalize wr.alloc (.cells #[.int .i64 y0, .int .i64 y1] 26) = wn at *
      obtain ⟨_, _, _, _, _⟩ := hBn.two
      go_wp2_with (at_builtin; refine appF rfl _ _ rfl w.heap.size wn (.slice ad (1 + done.length) cap) (1 + done.length) (chQ done) y0 y1 rfl hGa (wr.heap.size + 1) rfl hzn (by have := HK.out; omega) (by omega) ?_; intro v' w6 hG6 hb6)
      go_roundw
      case rel => exact ⟨done ++ [n], k, f0, f1, y0, y1, q, r, rfl, rfl, rfl, rfl, rfl, rfl, HL2, HST, Lib.hid ⟨HE.out.2.1, by unfold Ent; omega, r1⟩, Lib.hid ⟨HB.out.2.2.1, HB.out.2.2.2, HOK.out.1, HOK.out.2⟩, h2, by have := HK.out; simp; omega, by rw [HCV.out, List.length_append, ← Nat.add_assoc]; exact hG6, hTa.trans hb6⟩
      case measure =>
        obtain ⟨a', c', hv'⟩ := hG6.shape
        have := HK.out
        rw [hv']
        simp [lenOf]
        omega
    · obtain rfl : q = 0 := by have := HE.out.2.2; omega
      have HEQ : Hid (xs = done) := Lib.hid (by rw [HL.out, cf_zero, List.append_nil])
      go_wp2
      go_ret
      rw [HEQ.out]
      exact ⟨_, rfl, hG, T⟩
theorem specCh_no (p q : Int) (h : isF p q = false) (w : World) : Calls Try.prog 5 #[(.agg #[.int .i64 p, .int .i64 q])] w (RetQ 0 [] 1 w) := by
  have H := Lib.hid h
  clear h
  go_enter Try.func5, Try.ntmps5
  go_wp2_with fail
  refine (l03F_is false _ _ H.out _).mono ?_
  rintro e w1 ⟨rfl, hb1⟩
  go_wp2
  go_ret2
  exact ⟨_, rfl, (GrF.nil _ _).sl, by repeat (first | with_reducible exact own_refl _ | with_reducible assumption | with_reducible apply own_alloc | with_reducible apply own_drewN | with_reducible apply own_drew | ((with_reducible refine own_setCell ?_ ?_ _); rotate_left; focus (first | (simp; done) | (simp; omega))) | (with_reducible (refine own_trans ?_ (by assumption))))⟩
theorem specCh_yes (p q : Int) (h : isF p q = true) (xs : List Int) (hx : cfL q.natAbs p q = xs) (w : World) : Calls Try.prog 5 #[(.agg #[.int .i64 p, .int .i64 q])] w (RetQ (1 + xs.length) (chQ xs) 0 w) := by
  have H := Lib.hid h
  have HC := Lib.hid (fun w => l08Chain_is p q h xs hx w)
  clear h hx
  go_enter Try.func5, Try.ntmps5
  go_wp2_with fail
  refine (l03F_is true _ _ H.out _).mono ?_
  rintro e w1 ⟨rfl, hb1⟩
  have T1 : Below w.heap.size w w1 := by repeat (first | with_reducible exact own_refl _ | with_reducible assumption | with_reducible apply own_alloc | with_reducible apply own_drewN | with_reducible apply own_drew | ((with_reducible refine own_setCell ?_ ?_ _); rotate_left; focus (first | (simp; done) | (simp; omega))) | (with_reducible (refine own_trans ?_ (by assumption))))
  have A1 : Box w1 w.heap.size [.int .i64 p, .int .i64 q] := Box.below (Box.new _ _ _) hb1
  obtain ⟨_, _, _, _, _⟩ := A1.two
  go_wp2_with fail
  refine (HC.out _).mono ?_
  rintro e w2 ⟨v, rfl, hG, hb2⟩
  go_wp2
  go_ret2
  exact ⟨v, rfl, hG.sl.weak T1.size, own_trans T1 hb2⟩
end Go.Proofs.Ytejghidllochoaa
