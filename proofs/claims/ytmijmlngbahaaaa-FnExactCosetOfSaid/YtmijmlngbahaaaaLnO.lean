/- LineOf of the program: contract. -/
import Derived.Test.YtmijmlngbahaaaaLnI
import Derived.Test.YtmijmlngbahaaaaLnS
namespace Go.Proofs.Ytmijmlngbahaaaa
open Go.ChangeShapes Go.WideShapes Go.ChangeAt Go.RowKit Go.Shelf
attribute [local go_sem] Oper.semAt_some

set_option maxHeartbeats 1000000 in
theorem levelOf_own (n : Int) (h1 : 1 ≤ n) (h2 : n ≤ 60) (w : World) :
    Calls Try.prog 46 #[(.int .i64 n)] w fun e w' => ∃ g off cap, e = .returned (.agg #[(.int .i64 n), .slice (some ⟨g, off, none⟩) (cop n n.toNat).length cap]) ∧ w.heap.size ≤ g ∧ Cs w' g off (cop n n.toNat) ∧ Below w.heap.size w w' := by
  have HU := Lib.hid (fun w => unitsOf_any n n.toNat (by omega) (by omega) w)
  go_enter Try.func46, Try.ntmps46
  go_wp2_with fail
  refine (HU.out _).mono ?_
  rintro e w1 ⟨v, rfl, hG, hb1⟩
  obtain ⟨_, a, cap, rfl, hc⟩ := hG.sl
  obtain ⟨g, off, rfl, hg, hg', hcell⟩ := hc (cop_one h1)
  simp only [World.size_alloc] at hg
  have HC : Hid (Cs w1 g off (cop n n.toNat)) := Lib.hid ⟨hg', fun k hk => (hcell k hk).1⟩
  have B1 : Box w1 w.heap.size [(.int .i64 0), .slice none 0 0] := Box.below (Box.new _ _ _) hb1
  obtain ⟨_, _, _, _, _⟩ := B1.two
  clear hc hcell hG
  go_wp2
  obtain ⟨_, e0, e1, _, _⟩ := (B1.put2 (.int .i64 n) (.slice (some ⟨g, off, none⟩) (cop n n.toNat).length cap)).two
  exact bodyPost_ret (v := .agg #[(.int .i64 n), .slice (some ⟨g, off, none⟩) (cop n n.toNat).length cap]) (by simp [results, Try.results46, go_sem, e0, e1]) rfl ⟨g, off, cap, rfl, by omega, (HC.out.set (by dsimp only; omega) _).set (by dsimp only; omega) _, by repeat (first | with_reducible exact own_refl _ | with_reducible assumption | with_reducible apply own_alloc | with_reducible apply own_drewN | with_reducible apply own_drew | ((with_reducible refine own_setCell ?_ ?_ _); rotate_left; focus (first | (simp; done) | (simp; omega))) | (with_reducible (refine own_trans ?_ (by assumption))))⟩
theorem line_func (n : Int) (u : Value) (w : World) :
    Calls Try.prog 49 #[.agg #[(.int .i64 n), u]] w fun e w' => e = .returned (.func (.func 63) #[] #[.pointer (some ⟨w.heap.size, 0, none⟩)]) ∧ w' = w.alloc (.cells #[(.int .i64 n), u] 57) := by
  go_enter Try.func49, Try.ntmps49
  go_wp2
  go_ret
  exact ⟨rfl, rfl⟩
theorem GrSS.keptC {w w' : World} {L : Nat} {v : Value} {xss : List (List Int)} {row : Option Nat} (h : GrSS w L v xss) (hg : w.grownBy w' row) (hr : ∀ r, row = some r → r < L) : GrSS w' L v xss := by
  obtain ⟨vs, h1, h2, h3, h4⟩ := h
  have kp : ∀ {t : TypeId} {v : Value} {n : Nat} {xs : List Value}, w.ownsRow L t 1 v n xs → w'.ownsRow L t 1 v n xs := fun {t v n xs} h => by
    refine World.ownsRow.kept h hg ?_
    rcases e : v.ownBlock with _ | k
    · exact .inl rfl
    · exact .inr fun he => by have := hr k he.symm; have := (h.lt k e).1; omega
  exact ⟨vs, kp h1, h2, fun i hi => kp (h3 i hi), h4⟩
theorem ownsRow_weakZ {w : World} {L L' : Nat} {t : TypeId} {v : Value} {n : Nat} {xs : List Value} (h : w.ownsRow L t 1 v n xs) (hL : L' ≤ L) : w.ownsRow L' t 1 v n xs := by
  obtain ⟨hl, hc⟩ := h
  refine ⟨hl, ?_⟩
  obtain hc | ⟨g, cap, cur, h1, h2, h3⟩ := hc
  · exact .inl hc
  · exact .inr ⟨g, cap, cur, h1, Nat.le_trans hL h2, h3⟩
theorem GrSS.weakZ {w : World} {L L' : Nat} {v : Value} {xss : List (List Int)} (h : GrSS w L v xss) (hL : L' ≤ L) : GrSS w L' v xss := by
  obtain ⟨vs, h1, h2, h3, h4⟩ := h
  exact ⟨vs, ownsRow_weakZ h1 hL, h2, fun i hi => ownsRow_weakZ (h3 i hi) hL, h4⟩
theorem grownBy_setZ (w : World) (p : Addr) (u : Value) : w.grownBy (w.setCell p u) (some p.block) :=
  ⟨rfl, rfl, rfl, by simp [World.setCell], fun k _ hk => Below.heap_setCell w p u k (fun e => hk (by rw [e]))⟩
/-- 'xss = append(xss, row)' in a round. -/
theorem appSSI {F : Fence} {m : Nat} {ops : Array Oper} {rest : List Oper} {o : Oper} {a : Act} {Q : Exit → Act → World → Prop} (hgd : o.guard = none) (s x : Operand)
    (ho : o.op = .call { callee := .builtin .append, args := #[s, x], argTypes := #[34, 34] })
    (L : Nat) (wo w : World) (v : Value) (xss : List (List Int)) (r : Value) (xs : List Int) (hs : a.eval s = v) (hown : GrSS wo L v xss) (hw : wo.grownBy w none) (hr : Gr w L r xs) (hrb : ∀ k, r.ownBlock = some k → wo.heap.size ≤ k)
    (h1c : r.oneCell' = true) (g : Nat) (hx : a.eval x = .slice (some ⟨g, 0, none⟩) 1 1) (hg : w.heap.size = g) (hlen : xss.length ≤ 1000000) (hL : L ≤ w.heap.size)
    (h : ∀ v' w', GrSS w' L v' (xss ++ [xs]) → (w.alloc (.cells #[r] 43)).grownBy w' v.ownBlock → (∀ k, v.ownBlock = some k → L ≤ k) → wpListIn F m Try.prog ops Q rest (a.put o.dst v') w') : wpListIn F m Try.prog ops Q (o :: rest) a (w.alloc (.cells #[r] 43)) := by
  obtain ⟨i0, hi, hz0, hz1, hz2⟩ := info_parts info_row
  subst hg
  obtain ⟨vs, hV⟩ := hown
  have hvl : vs.length = xss.length := hV.2.1
  have hwn : wo.grownBy (w.alloc (.cells #[r] 43)) none := World.grownBy.trans hw (World.grownBy_alloc _ _ _)
  refine wpListIn_append_own _ hgd s x 34 ho L 43 i0 (.slice none 0 0) 1 24 Try.underlying34 hi hz0 hz1 hz2 rfl (by decide) v vs.length _ hs (kept_none hV.1 hwn) ⟨w.heap.size, 0, none⟩ 1 1 [r] hx rfl ?_ ?_ ?_ ?_ ?_ ?_
  · intro j u hj
    match j, hj with
    | 0, hj => simp at hj; subst hj; simp [Addr.add]
  · intro u hu; simp at hu; subst hu; exact h1c
  · unfold maxLen; omega
  · omega
  · simp; omega
  · intro v' w' hown' hgrow _
    exact h v' w' (GrSS.snoc hV hwn (Gr.alloc hr _) hrb hown' hgrow) hgrow (fun k hk => (hV.1.lt k hk).1)

/-- What a call that makes a slice of slices gives back. -/
def RetSS (xss : List (List Int)) (k : Int) (w : World) (e : Ending) (w' : World) : Prop :=
  ∃ v, e = .returned (.tuple #[v, (.int .i64 k)]) ∧ GrSS w' w.heap.size v xss ∧ Below w.heap.size w w'
theorem implLine_no (n : Int) (h : inR n 1 60 = false) (w : World) : Calls Try.prog 19 #[(.int .i64 n)] w (RetSS [] 2 w) := by
  have H := Lib.hid h
  clear h
  go_enter Try.func19, Try.ntmps19
  go_wp2_with fail
  refine (isLevel_is false _ H.out _).mono ?_
  rintro e w1 ⟨rfl, rfl⟩
  go_wp2
  go_ret2
  exact ⟨_, rfl, GrSS.nil _ _, own_refl _⟩
theorem specLine_no (n : Int) (h : inR n 1 60 = false) (w : World) : Calls Try.prog 18 #[(.int .i64 n)] w (RetSS [] 2 w) := by
  have H := Lib.hid h
  clear h
  go_enter Try.func18, Try.ntmps18
  go_wp2_with fail
  refine (l01In_is false _ _ _ H.out _).mono ?_
  rintro e w1 ⟨rfl, rfl⟩
  go_wp2
  go_ret2
  exact ⟨_, rfl, GrSS.nil _ _, own_refl _⟩
theorem specLine_yes (n : Int) (h : inR n 1 60 = true) (w : World) : Calls Try.prog 18 #[(.int .i64 n)] w (RetSS (prs (ln n)) 0 w) := by
  have hn : 1 ≤ n ∧ n ≤ 60 := of_decide_eq_true h
  have H := Lib.hid h
  have HL := Lib.hid (fun w => l06Line_is n hn.1 hn.2 w)
  clear h hn
  go_enter Try.func18, Try.ntmps18
  go_wp2_with fail
  refine (l01In_is true _ _ _ H.out _).mono ?_
  rintro e w1 ⟨rfl, rfl⟩
  go_wp2_with fail
  refine (HL.out _).mono ?_
  rintro e w1 ⟨v, rfl, hG, hb1⟩
  go_wp2
  go_ret2
  exact ⟨_, rfl, hG, hb1⟩

/-- What LineOf keeps between two rounds. -/
def LI (w : World) (L : Nat) (pre : List (Int × Int)) (W : World) : Prop :=
  Below w.heap.size w W ∧ w.heap.size < W.heap.size ∧ ∃ v, Box W w.heap.size [v] ∧ GrSS W L v (prs pre)
theorem Box.rowC {w w' : World} {g : Nat} {xs : List Value} {row : Option Nat} (h : Box w g xs) (hg : w.grownBy w' row) (hr : ∀ r, row = some r → r ≠ g) : Box w' g xs :=
  h.heapZ (hg.block g h.1 (fun e => hr g e.symm rfl)) hg.size
set_option maxRecDepth 100000 in
set_option maxHeartbeats 4000000 in
theorem implLine_yes (n : Int) (h : inR n 1 60 = true) (w : World) : Calls Try.prog 19 #[(.int .i64 n)] w (RetSS (prs (ln n)) 0 w) := by
  have hn : 1 ≤ n ∧ n ≤ 60 := of_decide_eq_true h
  obtain ⟨n1, n2⟩ := hn
  have H := Lib.hid h
  have HLv := Lib.hid (fun w => levelOf_own n n1 n2 w)
  clear h
  refine (callsIn_wide (n := 3)).1 ?_
  have hro : Fence.wide.round = none := rfl
  refine callsIn_of_wp_marks Try.func19 rfl trivial ?_ hro
  simp only [Try.ntmps19, List.size_toArray, List.length_cons, List.length_nil, Nat.reduceAdd, Nat.reduceSub, Array.replicate_succ, Array.replicate_zero, List.push_toArray, List.append_toArray, List.nil_append, List.cons_append]
  gi_wp2_with fail
  refine ⟨trivial, (callsIn_wide.2 (isLevel_is true _ H.out _)).mono ?_⟩
  rintro e w1 ⟨rfl, rfl⟩
  gi_wp2_with fail
  refine ⟨trivial, (callsIn_wide.2 (HLv.out _)).mono ?_⟩
  rintro e w2 ⟨gu, ou, cu, rfl, hgu, hC, hb2⟩
  have T2 : Below w.heap.size w w2 := by repeat (first | with_reducible exact own_refl _ | with_reducible assumption | with_reducible apply own_alloc | with_reducible apply own_drewN | with_reducible apply own_drew | ((with_reducible refine own_setCell ?_ ?_ _); rotate_left; focus (first | (simp; done) | (simp; omega))) | (with_reducible (refine own_trans ?_ (by assumption))))
  have B0 : Box w2 w.heap.size [.slice none 0 0] := Box.below (Box.new _ _ _) hb2
  simp only [World.size_alloc] at hgu
  gi_wp2_with fail
  refine ⟨trivial, (callsIn_wide.2 (line_func n _ _)).mono ?_⟩
  rintro e w3' ⟨rfl, rfl⟩
  gi_wp2_with fail
  have BC : Box (w2.alloc (.cells #[(.int .i64 n), .slice (some ⟨gu, ou, none⟩) (cop n n.toNat).length cu] 57)) w2.heap.size [(.int .i64 n), .slice (some ⟨gu, ou, none⟩) (cop n n.toNat).length cu] := Box.new _ _ _
  have hC3 := hC.below (own_alloc (own_refl w2) (.cells #[(.int .i64 n), .slice (some ⟨gu, ou, none⟩) (cop n n.toNat).length cu] 57))
  have T3 := own_alloc T2 (.cells #[(.int .i64 n), .slice (some ⟨gu, ou, none⟩) (cop n n.toNat).length cu] 57)
  have B3 := B0.alloc (.cells #[(.int .i64 n), .slice (some ⟨gu, ou, none⟩) (cop n n.toNat).length cu] 57)
  have hcb := B0.1
  generalize w2.alloc (.cells #[(.int .i64 n), .slice (some ⟨gu, ou, none⟩) (cop n n.toNat).length cu] 57) = W3 at *
  have hcb3 := BC.1
  have I3 : LI w (W3.heap.size + 2) [] W3 := ⟨T3, B3.1, _, B3, GrSS.nil _ _⟩
  have OI : OwnC W3.heap.size (W3.heap.size + 2) (LI w (W3.heap.size + 2)) := by
    rintro s X Y row ⟨h1, h2, v, h3, h4⟩ hg hr
    refine ⟨h1.grown hg (by omega) (fun k e => by have := hr k e; omega), Nat.lt_of_lt_of_le h2 hg.size, v, h3.rowC hg (fun r e => by have := hr r e; omega), h4.keptC hg (fun r e => by have := hr r e; omega)⟩
  have hKw : ∀ b, (b = w2.heap.size ∨ b = gu) → w.heap.size < b ∧ b < W3.heap.size := fun b hb => by
    rcases hb with rfl | rfl
    · exact ⟨hcb, hcb3⟩
    · exact ⟨by omega, hC3.1⟩
  refine rangeZ (gf := 63) (lb := #[.pointer (some ⟨w2.heap.size, 0, none⟩)]) rfl (fun _ _ => by kernel_rfl) (lineSeq n n1 n2 w2.heap.size gu ou cu (fun b => b = w2.heap.size ∨ b = gu) (.inl rfl) (.inr rfl) W3 BC hC3) (own_refl _) (fun b hb => (hKw b hb).2) (fun _ => rfl)
    (LI w (W3.heap.size + 2)) (fun _ _ _ => False) OI (fun _ _ _ _ _ h _ _ => h) I3 (fun x a' W => ∃ g, W3.heap.size + 2 ≤ g ∧ Box W g [(.int .i64 x.1), (.int .i64 x.2)] ∧ a' = { tmps := #[(.int .i64 n), undef, .slice none 0 0, (.int .i64 0), .pointer (some ⟨w.heap.size, 0, none⟩), .pointer (some ⟨g, 0, none⟩), (.int .i64 n), .bool true, .bool false, (.int .i64 n), .agg #[(.int .i64 n), .slice (some ⟨gu, ou, none⟩) (cop n n.toNat).length cu], .func (.func 63) #[] #[.pointer (some ⟨w2.heap.size, 0, none⟩)], .agg #[(.int .i64 x.1), (.int .i64 x.2)], undef, undef, undef, undef, undef, undef, undef, undef, undef], defers := [] }) ?hAx ?assign ?body ?done ?stop
  case hAx =>
    rintro x s X Y row ⟨g, h1, h2, h3⟩ hg hr
    exact ⟨g, h1, h2.rowC hg (fun r e => by have := hr r e; omega), h3⟩
  case assign =>
    rintro l pre x W K hI hz hK
    simp only [encP]
    gi_wp2
    exact hK _ _ (KeepZ.grown (World.grownBy_alloc _ _ none) (fun r e => by cases e)) (OI.belowZ hI (own_alloc (own_refl _) _)) ⟨W.heap.size, hz, Box.new _ _ _, rfl⟩
  case body =>
    rintro l pre x a' W hI ⟨g, hg, hB, rfl⟩ hz hnx
    obtain ⟨T, hsz, v, B0, G⟩ := hI
    obtain ⟨x0, x1⟩ := x
    obtain ⟨_, g0, g1, _, _⟩ := hB.two
    obtain ⟨_, hv0, hv1⟩ := B0.one
    obtain ⟨xss, hxss⟩ : ∃ xss, prs pre = xss := ⟨_, rfl⟩
    rw [hxss] at G
    have hlen : xss.length ≤ 3600 := by
      have := hnx.length_le
      have h2 := ln_len n2
      rw [← hxss]
      simp [prs] at this ⊢
      omega
    obtain ⟨ad, cap, hv⟩ := G.shape
    subst hv
    simp only at g0 g1
    gi_wp2_with (gi_at_builtin; refine appSSI rfl _ _ rfl (W3.heap.size + 2) W (W.alloc (.cells #[(.int .i64 x0), (.int .i64 x1)] 2)) (.slice ad xss.length cap) xss (.slice (some ⟨W.heap.size, 0, none⟩) 2 2) [x0, x1] rfl G (World.grownBy_alloc _ _ _) (Gr.pair hz x0 x1) (fun k hk => by simp [Value.ownBlock] at hk; omega) rfl (W.heap.size + 1) (by simp [go_sem]) (by simp) (by omega) (by simp; omega) ?_; intro v' w6 hG6 hg6 hge; have B6 := ((B0.alloc (.cells #[(.int .i64 x0), (.int .i64 x1)] 2)).alloc (.cells #[.slice (some ⟨W.heap.size, 0, none⟩) 2 2] 43)).rowC hg6 (fun r e => by have := hge r e; omega); obtain ⟨_, hw0, hw1⟩ := B6.one; obtain ⟨ad', cap', rfl⟩ := hG6.shape)
    have hgo : ∀ r, (Value.slice ad xss.length cap).ownBlock = some r → W3.heap.size + 2 ≤ r := hge
    refine ⟨(((KeepZ.grown (World.grownBy_alloc _ _ none) (fun r e => by cases e)).trans (KeepZ.grown (World.grownBy_alloc _ _ none) (fun r e => by cases e))).trans (KeepZ.grown hg6 fun r e => ?_)).trans (KeepZ.grown (grownBy_setZ _ _ _) fun r e => ?_), ?_, ?_, _, Box.set B6 0 (by simp) _, ?_⟩
    · have h1 := hgo r e
      rintro (h | h)
      · have := hKw r h; omega
      · omega
    · simp only [Option.some.injEq] at e
      rintro (h | h)
      · have := hKw r h; omega
      · omega
    · exact own_setCell ((own_alloc (own_alloc T _) _).grown hg6 (by simp; omega) (fun k e => by have := hgo k e; omega)) (Nat.le_refl _) _
    · have := hg6.size
      simp at this ⊢
      omega
    · rw [prs_snoc, hxss]
      have hk := hG6.keptC (grownBy_setZ w6 ⟨w.heap.size, 0, none⟩ (.slice ad' (xss.length + 1) cap')) (fun r e => by cases e; dsimp only; omega)
      rw [show (xss ++ [[x0, x1]]).length = xss.length + 1 by simp] at hk
      exact hk
  case done =>
    rintro ys W hS hI hD
    obtain ⟨T, hsz, v, B0, G⟩ := hI
    obtain ⟨_, hv0, hv1⟩ := B0.one
    gi_wp2
    refine ⟨by simp, .inl ⟨_, _, rfl, run_takeDeferred hD, ?_⟩⟩
    exact ⟨_, by simp [results, Try.results19, go_sem], v, rfl, (by rw [← hS]; exact (G.keptC (grownBy_putObj' W W3.heap.size (.deferred none)) (fun r e => by cases e; omega)).weakZ (by omega)), T.grown (grownBy_putObj' _ _ _) T.size (fun k e => by cases e; omega)⟩
  case stop =>
    rintro c pre W hpre hI hD
    exact hI.elim
end Go.Proofs.Ytmijmlngbahaaaa
