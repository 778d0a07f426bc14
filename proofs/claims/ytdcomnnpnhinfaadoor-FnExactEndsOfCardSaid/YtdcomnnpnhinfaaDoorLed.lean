/- Where a matrix leads the cosets: the program's cosetsLedBy. -/
import Derived.Test.YtdcomnnpnhinfaaDoorNbs
import Derived.Test.YtdcomnnpnhinfaaDoorPin
import Derived.Laws.OwnMore
namespace Go.Proofs.YtdcomnnpnhinfaaDoor
open Go.ChangeShapes Go.WideShapes Go.ChangeAt Go.RowKit Go.Shelf
attribute [local go_sem] Oper.semAt_some

/-- the number of the coset of two numbers -/
def kOf (n x y : Int) : Nat := (ln n).idxOf (nrm n (rst x n) (rst y n))
theorem kOf_spec {n x y : Int} (h1 : 1 ≤ n) (hp : isP n x y = true) : kOf n x y < (ln n).length ∧ (ln n).getD (kOf n x y) (0, 0) = nrm n (rst x n) (rst y n) := by
  obtain ⟨K, hK, hg⟩ := nrm_in h1 hp
  have hm : nrm n (rst x n) (rst y n) ∈ ln n := by
    rw [← hg]
    simp only [List.getD, List.getElem?_eq_getElem hK, Option.getD_some]
    exact List.getElem_mem hK
  have hl := List.idxOf_lt_length_of_mem hm
  refine ⟨hl, ?_⟩
  unfold kOf
  simp only [List.getD, List.getElem?_eq_getElem hl, Option.getD_some]
  exact List.getElem_idxOf hl
def ledL (n a b c d : Int) (l : List (Int × Int)) : List Int := l.map fun p => (kOf n (p.1 * a + p.2 * c) (p.1 * b + p.2 * d) : Int)
/-- What cosetsLedBy reads. -/
structure QB (w : World) (sl : Value) (n a b c d : Int) (m g5 bm : Nat) (W : World) : Prop where
  T : Below w.heap.size w W
  bl : Box W w.heap.size [(.int .i64 n), sl]
  bx : Box W (w.heap.size + 1) [(.int .i64 a), (.int .i64 b), (.int .i64 c), (.int .i64 d)]
  bn : Box W g5 [.map (some bm)]
  pk : PK W bm (fN (ln n)) m
/-- What cosetsLedBy keeps between two rounds. -/
def QI (w : World) (sl : Value) (n a b c d : Int) (m g4 g5 g6 bm : Nat) (pre : List (Int × Int)) (W : World) : Prop :=
  QB w sl n a b c d m g5 bm W ∧ g6 + 1 < W.heap.size ∧ Box W g6 [.slice (some ⟨g4, 0, none⟩) pre.length m] ∧ W.ownsRow w.heap.size 2 1 (.slice (some ⟨g4, 0, none⟩) pre.length m) pre.length ((ledL n a b c d pre).map fun x => (.int .i64 x))
theorem QB.below {w W W' : World} {sl : Value} {n a b c d : Int} {m g5 bm : Nat} (h : QB w sl n a b c d m g5 bm W) (hb : Below W.heap.size W W') : QB w sl n a b c d m g5 bm W' :=
  ⟨own_trans h.T hb, h.bl.below hb, h.bx.below hb, h.bn.below hb, h.pk.below hb⟩
/-- What a round's statement reads, as cells. -/
def QS (L : Nat) (sl : Value) (n a b c d p0 p1 : Int) (g5 g bm : Nat) (W : World) : Prop :=
  W.cell? ⟨g5, 0, none⟩ = some (.map (some bm)) ∧ W.cell? ⟨L, 0, none⟩ = some (.int .i64 n) ∧ W.cell? ⟨L, 1, none⟩ = some sl ∧ W.cell? ⟨g, 0, none⟩ = some (.int .i64 p0) ∧ W.cell? ⟨g, 1, none⟩ = some (.int .i64 p1) ∧
    W.cell? ⟨L + 1, 0, none⟩ = some (.int .i64 a) ∧ W.cell? ⟨L + 1, 1, none⟩ = some (.int .i64 b) ∧ W.cell? ⟨L + 1, 2, none⟩ = some (.int .i64 c) ∧ W.cell? ⟨L + 1, 3, none⟩ = some (.int .i64 d)
structure QP (w : World) (sl : Value) (n a b c d p0 p1 : Int) (m g5 g bm : Nat) (W : World) : Prop where
  qb : QB w sl n a b c d m g5 bm W
  bp : Box W g [(.int .i64 p0), (.int .i64 p1)]
theorem QP.pk {w W : World} {sl : Value} {n a b c d p0 p1 : Int} {m g5 g bm : Nat} (h : QP w sl n a b c d p0 p1 m g5 g bm W) : PK W bm (fN (ln n)) m := h.qb.pk
theorem QP.below {w W W' : World} {sl : Value} {n a b c d p0 p1 : Int} {m g5 g bm : Nat} (h : QP w sl n a b c d p0 p1 m g5 g bm W) (hb : Below W.heap.size W W') : QP w sl n a b c d p0 p1 m g5 g bm W' :=
  ⟨h.qb.below hb, h.bp.below hb⟩
theorem QP.row {w W W' : World} {sl : Value} {n a b c d p0 p1 : Int} {m g5 g bm k : Nat} (h : QP w sl n a b c d p0 p1 m g5 g bm W) (hg : W.grownBy W' (some k)) (h1 : w.heap.size + 1 < k) (h2 : k ≠ g5) (h3 : k ≠ bm) (h4 : k ≠ g) (h5 : w.heap.size ≤ W.heap.size) : QP w sl n a b c d p0 p1 m g5 g bm W' :=
  ⟨⟨h.qb.T.grown hg h5 (fun r e => by injection e with e; omega), h.qb.bl.rowC hg (fun r e => by injection e with e; omega), h.qb.bx.rowC hg (fun r e => by injection e with e; omega), h.qb.bn.rowC hg (fun r e => by injection e with e; omega), h.qb.pk.kept hg (fun e => by injection e with e; omega)⟩, h.bp.rowC hg (fun r e => by injection e with e; omega)⟩
theorem QP.cells {w W : World} {sl : Value} {n a b c d p0 p1 : Int} {m g5 g bm : Nat} (h : QP w sl n a b c d p0 p1 m g5 g bm W) : QS w.heap.size sl n a b c d p0 p1 g5 g bm W := by
  obtain ⟨_, a0, _⟩ := h.qb.bn.one
  obtain ⟨_, b0, b1, _, _⟩ := h.qb.bl.two
  obtain ⟨_, c0, c1, _, _⟩ := h.bp.two
  obtain ⟨_, d0, d1, d2, d3, _, _, _, _⟩ := h.qb.bx.four
  exact ⟨a0, b0, b1, c0, c1, d0, d1, d2, d3⟩
theorem ln_mem_at {n : Int} {K : Nat} (hK : K < (ln n).length) : (ln n).getD K (0, 0) ∈ ln n := by
  simp only [List.getD, List.getElem?_eq_getElem hK, Option.getD_some]
  exact List.getElem_mem hK
theorem step_fits {ops : Array Oper} {o : Oper} {a : Act} {W W' : World} {K : Act → World → Prop} {Q : Exit → Act → World → Prop} {E : Prop} {v u v' : Value} {t : TypeId} (hgd : o.guard = none) (s x : Operand)
    (ho : o.op = .call { callee := .builtin .append, args := #[s, x], argTypes := #[t, t] }) (hs : a.eval s = v) (hx : a.eval x = u) (hr : (Builtin.append_ #[t, t] o.type #[v, u]).run Tryd.prog W = .ok v' W') (h : K (a.put o.dst v') W') :
    if Region.wanted o (yielded ops a.tmps) = true then Oper.wp Tryd.prog o a W K Q else E := by
  have hw : Region.wanted o (yielded ops a.tmps) = true := by simp [Region.wanted, hgd]
  rw [if_pos hw]
  unfold Oper.wp
  simp [execOp, ho, resolve, invoke, builtin, hs, hx, hr, Result.andThen]
  exact h
theorem one_mul_bd {p a : Int} (hp : 0 ≤ p ∧ p ≤ 60) (ha : -1 ≤ a ∧ a ≤ 1) : -60 ≤ p * a ∧ p * a ≤ 60 := by
  rcases (show a = -1 ∨ a = 0 ∨ a = 1 by omega) with rfl | rfl | rfl <;> omega
set_option maxRecDepth 100000 in
set_option maxHeartbeats 4000000 in
theorem led_any (n a b c d : Int) (n1 : 1 ≤ n) (n2 : n ≤ 60) (ha : -1 ≤ a ∧ a ≤ 1) (hb : -1 ≤ b ∧ b ≤ 1) (hc : -1 ≤ c ∧ c ≤ 1) (hd : -1 ≤ d ∧ d ≤ 1) (hpr : ∀ p ∈ ln n, isP n (p.1 * a + p.2 * c) (p.1 * b + p.2 * d) = true) (gu ou cu : Nat) (w : World) (hC : Cs w gu ou (cop n n.toNat)) :
    Calls Tryd.prog 35 #[.agg #[(.int .i64 n), .slice (some ⟨gu, ou, none⟩) (cop n n.toNat).length cu], (.agg #[.int .i64 a, .int .i64 b, .int .i64 c, .int .i64 d])] w fun e w' => ∃ v, e = .returned v ∧ Gr w' w.heap.size v (ledL n a b c d (ln n)) ∧ Below w.heap.size w w' := by
  have HN := Lib.hid (fun w hC => numbers_any n n1 n2 gu ou cu w hC)
  have HP := Lib.hid hpr
  have hgu := hC.1
  have HC := Lib.hid hC
  have hlen := ln_len n2
  obtain ⟨m, hm⟩ : ∃ m, (ln n).length = m := ⟨_, rfl⟩
  have HM := Lib.hid hm
  rw [hm] at hlen HN
  clear hpr hC hm
  obtain ⟨i0, hi, hz0, hz1, hz2⟩ := info_parts info_i64
  refine (callsIn_wide (n := 3)).1 ?_
  have hro : Fence.wide.round = none := rfl
  refine callsIn_of_wp_marks Tryd.func35 rfl trivial ?_ hro
  simp only [Tryd.ntmps35, List.size_toArray, List.length_cons, List.length_nil, Nat.reduceAdd, Nat.reduceSub, Array.replicate_succ, Array.replicate_zero, List.push_toArray, List.append_toArray, List.nil_append, List.cons_append]
  gi_wp2_with fail
  refine ⟨trivial, (callsIn_wide.2 (HN.out _ (HC.out.below (by repeat (first | with_reducible exact own_refl _ | with_reducible assumption | with_reducible apply own_alloc | with_reducible apply own_drewN | with_reducible apply own_drew | ((with_reducible refine own_setCell ?_ ?_ _); rotate_left; focus (first | (simp; done) | (simp; omega))) | (with_reducible (refine own_trans ?_ (by assumption)))))))).mono ?_⟩
  rintro e w2 ⟨bm, rfl, hbm, hP2, hb2⟩
  simp only [World.size_alloc] at hbm
  have T2 : Below w.heap.size w w2 := by repeat (first | with_reducible exact own_refl _ | with_reducible assumption | with_reducible apply own_alloc | with_reducible apply own_drewN | with_reducible apply own_drew | ((with_reducible refine own_setCell ?_ ?_ _); rotate_left; focus (first | (simp; done) | (simp; omega))) | (with_reducible (refine own_trans ?_ (by assumption))))
  have BL2 : Box w2 w.heap.size [(.int .i64 n), .slice (some ⟨gu, ou, none⟩) (cop n n.toNat).length cu] := Box.below (Box.alloc (Box.new _ _ _) _) hb2
  have BM2 : Box w2 (w.heap.size + 1) [(.int .i64 a), (.int .i64 b), (.int .i64 c), (.int .i64 d)] := Box.below (Box.newAt (by simp) _ _) hb2
  obtain ⟨_, _, _, _, _⟩ := BL2.two
  have hl2 := (hP2.below (own_alloc (own_refl w2) (.cells #[.map (some bm)] 95))).len
  gi_wp2_with (gi_at_make; refine wpListIn_make_own _ rfl _ _ _ rfl w.heap.size 2 i0 (.int .i64 0) 1 Tryd.underlying22 hi hz0 hz1 .i64 .i64 (m : Int) m rfl rfl rfl (by rw [hz2]; omega) (by unfold maxLen; omega) (by have := BM2.1; simp; omega) ?_; intro w4 hG4 hg4; have BL4 := (BL2.alloc (.cells #[.map (some bm)] 95)).rowC hg4 (fun r e => by cases e); have BM4 := (BM2.alloc (.cells #[.map (some bm)] 95)).rowC hg4 (fun r e => by cases e); have BN4 : Box w4 w2.heap.size [.map (some bm)] := (Box.new _ _ _).rowC hg4 (fun r e => by cases e); obtain ⟨_, _, _, _, _⟩ := BL4.two; obtain ⟨_, hn0, hn1⟩ := BN4.one)
  refine ⟨trivial, (callsIn_wide.2 (line_func n _ _)).mono ?_⟩
  rintro e w5 ⟨rfl, rfl⟩
  gi_wp2_with fail
  obtain ⟨g5, hg5⟩ : ∃ g5, w2.heap.size = g5 := ⟨_, rfl⟩
  obtain ⟨g6, hg6⟩ : ∃ g6, w4.heap.size = g6 := ⟨_, rfl⟩
  simp only [World.size_alloc, hg5, hg6] at hG4 BN4 ⊢
  have z1 := BM2.1
  have z2 := (hG4.lt (g5 + 1) rfl).2
  have z3 := hP2.lt
  have BL5 := (BL4.alloc (.cells #[.slice (some ⟨g5 + 1, 0, none⟩) 0 m] 22)).alloc (.cells #[(.int .i64 n), .slice (some ⟨gu, ou, none⟩) (cop n n.toNat).length cu] 54)
  have BM5 := (BM4.alloc (.cells #[.slice (some ⟨g5 + 1, 0, none⟩) 0 m] 22)).alloc (.cells #[(.int .i64 n), .slice (some ⟨gu, ou, none⟩) (cop n n.toNat).length cu] 54)
  have BN5 := (BN4.alloc (.cells #[.slice (some ⟨g5 + 1, 0, none⟩) 0 m] 22)).alloc (.cells #[(.int .i64 n), .slice (some ⟨gu, ou, none⟩) (cop n n.toNat).length cu] 54)
  have P5 : PK ((w4.alloc (.cells #[.slice (some ⟨g5 + 1, 0, none⟩) 0 m] 22)).alloc (.cells #[(.int .i64 n), .slice (some ⟨gu, ou, none⟩) (cop n n.toNat).length cu] 54)) bm (fN (ln n)) m := ((((hP2.below (own_alloc (own_refl _) _)).kept hg4 (by simp))).below (own_alloc (own_refl _) _)).below (own_alloc (own_refl _) _)
  have T5 : Below w.heap.size w ((w4.alloc (.cells #[.slice (some ⟨g5 + 1, 0, none⟩) 0 m] 22)).alloc (.cells #[(.int .i64 n), .slice (some ⟨gu, ou, none⟩) (cop n n.toNat).length cu] 54)) := own_alloc (own_alloc ((own_alloc T2 (.cells #[.map (some bm)] 95)).grown hg4 (by simp; omega) (fun k e => by cases e)) _) _
  have R5 := kept_none hG4 (World.grownBy.trans (World.grownBy_alloc w4 (.cells #[.slice (some ⟨g5 + 1, 0, none⟩) 0 m] 22) none) (World.grownBy_alloc _ (.cells #[(.int .i64 n), .slice (some ⟨gu, ou, none⟩) (cop n n.toNat).length cu] 54) none))
  have BI5 : Box ((w4.alloc (.cells #[.slice (some ⟨g5 + 1, 0, none⟩) 0 m] 22)).alloc (.cells #[(.int .i64 n), .slice (some ⟨gu, ou, none⟩) (cop n n.toNat).length cu] 54)) g6 [.slice (some ⟨g5 + 1, 0, none⟩) 0 m] := Box.alloc (Box.newAt hg6 _ _) _
  have BC5 : Box ((w4.alloc (.cells #[.slice (some ⟨g5 + 1, 0, none⟩) 0 m] 22)).alloc (.cells #[(.int .i64 n), .slice (some ⟨gu, ou, none⟩) (cop n n.toNat).length cu] 54)) (g6 + 1) [(.int .i64 n), .slice (some ⟨gu, ou, none⟩) (cop n n.toNat).length cu] := Box.newAt (by simp [hg6]) _ _
  have hs5 : ((w4.alloc (.cells #[.slice (some ⟨g5 + 1, 0, none⟩) 0 m] 22)).alloc (.cells #[(.int .i64 n), .slice (some ⟨gu, ou, none⟩) (cop n n.toNat).length cu] 54)).heap.size = g6 + 2 := by simp [hg6]
  generalize (w4.alloc (.cells #[.slice (some ⟨g5 + 1, 0, none⟩) 0 m] 22)).alloc (.cells #[(.int .i64 n), .slice (some ⟨gu, ou, none⟩) (cop n n.toNat).length cu] 54) = W3 at *
  clear BL4 BM4 BN4 hb2 BL2 BM2 hl2
  obtain ⟨g4, hg4'⟩ : ∃ g4, g5 + 1 = g4 := ⟨_, rfl⟩
  rw [hg4'] at BI5 R5 z2 ⊢
  have I3 : QI w (.slice (some ⟨gu, ou, none⟩) (cop n n.toNat).length cu) n a b c d m g4 g5 g6 bm [] W3 := ⟨⟨T5, BL5, BM5, BN5, P5⟩, by omega, BI5, R5⟩
  have OI : OwnC W3.heap.size (W3.heap.size + 2) (QI w (.slice (some ⟨gu, ou, none⟩) (cop n n.toNat).length cu) n a b c d m g4 g5 g6 bm) := by
    rintro s X Y row ⟨h1, h2, h3, h4⟩ hg hr
    refine ⟨⟨h1.T.grown hg (by omega) (fun k e => by have := hr k e; omega), h1.bl.rowC hg (fun r e => by have := hr r e; omega), h1.bx.rowC hg (fun r e => by have := hr r e; omega), h1.bn.rowC hg (fun r e => by have := hr r e; omega), h1.pk.kept hg (fun e => by have := hr _ e.symm; omega)⟩, Nat.lt_of_lt_of_le h2 hg.size, h3.rowC hg (fun r e => by have := hr r e; omega), ?_⟩
    refine World.ownsRow.kept h4 hg (.inr fun e => ?_)
    have := hr g4 e.symm
    omega
  have hKw : ∀ b, (b = g6 + 1 ∨ b = gu) → b ≠ g4 ∧ b ≠ g6 ∧ b < W3.heap.size := fun b hb => by
    rcases hb with rfl | rfl <;> omega
  have hNo : ∀ r, (r = g4 ∨ r = g6) → ¬ ((r = g6 + 1 ∨ r = gu) ∨ (W3.heap.size ≤ r ∧ r < W3.heap.size + 2)) := by
    rintro r h (h2 | h2)
    · have := hKw r h2
      omega
    · omega
  refine rangeZ (gf := 89) (lb := #[.pointer (some ⟨g6 + 1, 0, none⟩)]) rfl (fun _ _ => by kernel_rfl) (lineSeq n n1 n2 (g6 + 1) gu ou cu (fun b => b = g6 + 1 ∨ b = gu) (.inl rfl) (.inr rfl) W3 BC5 (HC.out.low T5 hgu)) (own_refl _) (fun b hb => (hKw b hb).2.2) (fun _ => rfl)
    (QI w (.slice (some ⟨gu, ou, none⟩) (cop n n.toNat).length cu) n a b c d m g4 g5 g6 bm) (fun _ _ _ => False) OI (fun _ _ _ _ _ h _ _ => h) I3 (fun x a' W => ∃ g, W3.heap.size + 2 ≤ g ∧ Box W g [(.int .i64 x.1), (.int .i64 x.2)] ∧ a' = { tmps := #[.agg #[(.int .i64 n), .slice (some ⟨gu, ou, none⟩) (cop n n.toNat).length cu], (.agg #[.int .i64 a, .int .i64 b, .int .i64 c, .int .i64 d]), .pointer (some ⟨w.heap.size, 0, none⟩), .pointer (some ⟨w.heap.size + 1, 0, none⟩), .slice none 0 0, .pointer (some ⟨g5, 0, none⟩), .pointer (some ⟨g6, 0, none⟩), .pointer (some ⟨g, 0, none⟩), .agg #[(.int .i64 n), .slice (some ⟨gu, ou, none⟩) (cop n n.toNat).length cu], .map (some bm), .map (some bm), (.int .i64 ((m : Int))), .slice (some ⟨g4, 0, none⟩) 0 m, .agg #[(.int .i64 n), .slice (some ⟨gu, ou, none⟩) (cop n n.toNat).length cu], .func (.func 89) #[] #[.pointer (some ⟨g6 + 1, 0, none⟩)], .agg #[(.int .i64 x.1), (.int .i64 x.2)], undef, undef, undef, undef, undef, undef, undef, undef, undef, undef, undef, undef, undef, undef, undef, undef, undef, undef, undef, undef, undef, undef, undef, undef, undef, undef, undef, undef, undef, undef], defers := [] }) ?hAx ?assign ?body ?done ?stop
  case hAx =>
    rintro x s X Y row ⟨g, h1, h2, h3⟩ hg hr
    exact ⟨g, h1, h2.rowC hg (fun r e => by have := hr r e; omega), h3⟩
  case assign =>
    rintro l pre x W K hI hz hK
    simp only [encP]
    gi_wp2
    exact hK _ _ (KeepZ.grown (World.grownBy_alloc _ _ none) (fun r e => by cases e)) (OI.belowZ hI (own_alloc (own_refl _) _)) ⟨W.heap.size, hz, Box.new _ _ _, rfl⟩
  case body =>
    rintro l pre x a' W hI ⟨g, hg, hB, rfl⟩ hz hnx
    have hxl : x ∈ ln n := hnx.subset (by simp)
    have hpx := HP.out x hxl
    have hlen1 : pre.length + 1 ≤ m := by
      have := hnx.length_le
      rw [HM.out] at this
      simpa using this
    obtain ⟨x0, x1, x2, x3⟩ := lnL_memX hxl
    obtain ⟨p0, p1⟩ := x
    (try simp only at x0 x1 x2 x3)
    (try simp only at hpx)
    (try simp only at hB)
    obtain ⟨X, hX⟩ : ∃ X, p0 * a + p1 * c = X := ⟨_, rfl⟩
    obtain ⟨Y, hY⟩ : ∃ Y, p0 * b + p1 * d = Y := ⟨_, rfl⟩
    have eA : -60 ≤ p0 * a ∧ p0 * a ≤ 60 := one_mul_bd ⟨x0, by omega⟩ ha
    have eB : -60 ≤ p0 * b ∧ p0 * b ≤ 60 := one_mul_bd ⟨x0, by omega⟩ hb
    have eC : -60 ≤ p1 * c ∧ p1 * c ≤ 60 := one_mul_bd ⟨x2, by omega⟩ hc
    have eD : -60 ≤ p1 * d ∧ p1 * d ≤ 60 := one_mul_bd ⟨x2, by omega⟩ hd
    have wA : IntKind.i64.wrap (p0 * a) = p0 * a := IntWalk.i64_in _ (by omega)
    have wB : IntKind.i64.wrap (p0 * b) = p0 * b := IntWalk.i64_in _ (by omega)
    have wC : IntKind.i64.wrap (p1 * c) = p1 * c := IntWalk.i64_in _ (by omega)
    have wD : IntKind.i64.wrap (p1 * d) = p1 * d := IntWalk.i64_in _ (by omega)
    have wX : IntKind.i64.wrap (p0 * a + p1 * c) = X := by rw [hX]; exact IntWalk.i64_in _ (by omega)
    have wY : IntKind.i64.wrap (p0 * b + p1 * d) = Y := by rw [hY]; exact IntWalk.i64_in _ (by omega)
    have iX : I64 X := by unfold I64; omega
    have iY : I64 Y := by unfold I64; omega
    rw [hX, hY] at hpx
    obtain ⟨hK, hat⟩ := kOf_spec n1 hpx
    obtain ⟨K, hKk⟩ : ∃ K, kOf n X Y = K := ⟨_, rfl⟩
    rw [hKk] at hK hat
    have HKK := Lib.hid (show ledL n a b c d (pre ++ [(p0, p1)]) = ledL n a b c d pre ++ [(K : Int)] by simp [ledL, hX, hY, hKk])
    have HF := Lib.hid (fN_at (ln n) K (ln_i64 n2) (ln_nodup n) hK)
    have HI := Lib.hid (ln_i64 n2 _ (ln_mem_at hK))
    have HR := Lib.hid (fun lv w hL => normal_any n X Y n1 n2 iX iY _ hat.symm lv w hL)
    generalize (ln n).getD K (0, 0) = r at *
    obtain ⟨hQ, hsz, hLst, hGr⟩ := hI
    obtain ⟨j, hj⟩ : ∃ j, pre.length = j := ⟨_, rfl⟩
    have HJ := Lib.hid hj
    rw [hj] at hLst hGr hlen1
    have HNX := Lib.hid hnx
    have hQ0 := hQ
    have hLst0 := hLst
    obtain ⟨_, ll, lm⟩ := hLst.one
    obtain ⟨_, pa, pb, _, _⟩ := hB.two
    clear hpx hX hY hat hKk hK hj hnx hxl eA eB eC eD
    gi_upto_region 5 with fail
    have hQ : QB w (.slice (some ⟨gu, ou, none⟩) (cop n n.toNat).length cu) n a b c d m g5 bm W.drew := hQ.below (own_drew (own_refl _))
    have hB : Box W.drew g [(.int .i64 p0), (.int .i64 p1)] := hB.drew
    have hLst : Box W.drew g6 [.slice (some ⟨g4, 0, none⟩) j m] := hLst.drew
    have hGr := kept_none hGr (⟨rfl, rfl, rfl, Nat.le_refl _, fun _ _ _ => rfl⟩ : W.grownBy W.drew none)
    have h0 := QP.mk hQ hB
    refine region_round (S := QS w.heap.size (.slice (some ⟨gu, ou, none⟩) (cop n n.toNat).length cu) n a b c d p0 p1 g5 g bm) (by kernel_rfl) (by kernel_rfl) (fun ⟨_, _, h⟩ => h) h0.cells (fun hHeld => ?_)
    refine takeH (i := 1) (v := ?_) rfl (by kernel_rfl) (by kernel_rfl) (by kernel_rfl) (fun _ _ _ h => h) (Or.inl ⟨by kernel_rfl, ?_⟩) hHeld ?_
    rotate_left
    · intro w' hSw; obtain ⟨q0, q1, q2, q3, q4, q5, q6, q7, q8⟩ := hSw; go_simp; try with_reducible rfl
    (try simp only [Act.put, List.setIfInBounds_toArray, List.set_cons_zero, List.set_cons_succ])
    refine takeH (i := 2) (v := ?_) rfl (by kernel_rfl) (by kernel_rfl) (by kernel_rfl) (fun _ _ _ h => h) (Or.inl ⟨by kernel_rfl, ?_⟩) hHeld ?_
    rotate_left
    · intro w' hSw; obtain ⟨q0, q1, q2, q3, q4, q5, q6, q7, q8⟩ := hSw; go_simp; try with_reducible rfl
    (try simp only [Act.put, List.setIfInBounds_toArray, List.set_cons_zero, List.set_cons_succ])
    refine takeH (i := 3) (v := ?_) rfl (by kernel_rfl) (by kernel_rfl) (by kernel_rfl) (fun _ _ _ h => h) (Or.inl ⟨by kernel_rfl, ?_⟩) hHeld ?_
    rotate_left
    · intro w' hSw; obtain ⟨q0, q1, q2, q3, q4, q5, q6, q7, q8⟩ := hSw; go_simp; try with_reducible rfl
    (try simp only [Act.put, List.setIfInBounds_toArray, List.set_cons_zero, List.set_cons_succ])
    refine takeH (i := 4) (v := ?_) rfl (by kernel_rfl) (by kernel_rfl) (by kernel_rfl) (fun _ _ _ h => h) (Or.inl ⟨by kernel_rfl, ?_⟩) hHeld ?_
    rotate_left
    · intro w' hSw; obtain ⟨q0, q1, q2, q3, q4, q5, q6, q7, q8⟩ := hSw; go_simp; try with_reducible rfl
    (try simp only [Act.put, List.setIfInBounds_toArray, List.set_cons_zero, List.set_cons_succ])
    refine takeH (i := 5) (v := ?_) rfl (by kernel_rfl) (by kernel_rfl) (by kernel_rfl) (fun _ _ _ h => h) (Or.inl ⟨by kernel_rfl, ?_⟩) hHeld ?_
    rotate_left
    · intro w' hSw; obtain ⟨q0, q1, q2, q3, q4, q5, q6, q7, q8⟩ := hSw; go_simp; try with_reducible rfl
    (try simp only [Act.put, List.setIfInBounds_toArray, List.set_cons_zero, List.set_cons_succ])
    refine takeH (i := 6) (v := ?_) rfl (by kernel_rfl) (by kernel_rfl) (by kernel_rfl) (fun _ _ _ h => h) (Or.inl ⟨by kernel_rfl, ?_⟩) hHeld ?_
    rotate_left
    · intro w' hSw; obtain ⟨q0, q1, q2, q3, q4, q5, q6, q7, q8⟩ := hSw; go_simp; try with_reducible rfl
    (try simp only [Act.put, List.setIfInBounds_toArray, List.set_cons_zero, List.set_cons_succ])
    refine takeH (i := 7) (v := ?_) rfl (by kernel_rfl) (by kernel_rfl) (by kernel_rfl) (fun _ _ _ h => h) (Or.inl ⟨by kernel_rfl, ?_⟩) hHeld ?_
    rotate_left
    · intro w' hSw; obtain ⟨q0, q1, q2, q3, q4, q5, q6, q7, q8⟩ := hSw; go_simp; try with_reducible rfl
    (try simp only [Act.put, List.setIfInBounds_toArray, List.set_cons_zero, List.set_cons_succ])
    refine takeH (i := 8) (v := ?_) rfl (by kernel_rfl) (by kernel_rfl) (by kernel_rfl) (fun _ _ _ h => h) (Or.inl ⟨by kernel_rfl, ?_⟩) hHeld ?_
    rotate_left
    · intro w' hSw; obtain ⟨q0, q1, q2, q3, q4, q5, q6, q7, q8⟩ := hSw; go_simp; try with_reducible rfl
    (try simp only [Act.put, List.setIfInBounds_toArray, List.set_cons_zero, List.set_cons_succ])
    refine takeH (i := 9) (v := ?_) rfl (by kernel_rfl) (by kernel_rfl) (by kernel_rfl) (fun _ _ _ h => h) (Or.inl ⟨by kernel_rfl, ?_⟩) hHeld ?_
    rotate_left
    · intro w' hSw; obtain ⟨q0, q1, q2, q3, q4, q5, q6, q7, q8⟩ := hSw; go_simp; try with_reducible rfl
    (try simp only [Act.put, List.setIfInBounds_toArray, List.set_cons_zero, List.set_cons_succ])
    refine takeH (i := 10) (v := ?_) rfl (by kernel_rfl) (by kernel_rfl) (by kernel_rfl) (fun _ _ _ h => h) (Or.inl ⟨by kernel_rfl, ?_⟩) hHeld ?_
    rotate_left
    · intro w' hSw; obtain ⟨q0, q1, q2, q3, q4, q5, q6, q7, q8⟩ := hSw; go_simp; try with_reducible rfl
    (try simp only [Act.put, List.setIfInBounds_toArray, List.set_cons_zero, List.set_cons_succ])
    refine takeH (i := 11) (v := ?_) rfl (by kernel_rfl) (by kernel_rfl) (by kernel_rfl) (fun _ _ _ h => h) (Or.inl ⟨by kernel_rfl, ?_⟩) hHeld ?_
    rotate_left
    · intro w' hSw; obtain ⟨q0, q1, q2, q3, q4, q5, q6, q7, q8⟩ := hSw; go_simp; try with_reducible rfl
    (try simp only [Act.put, List.setIfInBounds_toArray, List.set_cons_zero, List.set_cons_succ])
    refine takeH (i := 12) (v := ?_) rfl (by kernel_rfl) (by kernel_rfl) (by kernel_rfl) (fun _ _ _ h => h) (Or.inl ⟨by kernel_rfl, ?_⟩) hHeld ?_
    rotate_left
    · intro w' hSw; obtain ⟨q0, q1, q2, q3, q4, q5, q6, q7, q8⟩ := hSw; go_simp; try with_reducible rfl
    (try simp only [Act.put, List.setIfInBounds_toArray, List.set_cons_zero, List.set_cons_succ])
    refine takeH (i := 13) (v := ?_) rfl (by kernel_rfl) (by kernel_rfl) (by kernel_rfl) (fun _ _ _ h => h) (Or.inl ⟨by kernel_rfl, ?_⟩) hHeld ?_
    rotate_left
    · intro w' hSw; obtain ⟨q0, q1, q2, q3, q4, q5, q6, q7, q8⟩ := hSw; go_simp; try with_reducible rfl
    (try simp only [Act.put, List.setIfInBounds_toArray, List.set_cons_zero, List.set_cons_succ])
    refine takeH (i := 14) (v := ?_) rfl (by kernel_rfl) (by kernel_rfl) (by kernel_rfl) (fun _ _ _ h => h) (Or.inl ⟨by kernel_rfl, ?_⟩) hHeld ?_
    rotate_left
    · intro w' hSw; obtain ⟨q0, q1, q2, q3, q4, q5, q6, q7, q8⟩ := hSw; go_simp; try with_reducible rfl
    (try simp only [Act.put, List.setIfInBounds_toArray, List.set_cons_zero, List.set_cons_succ])
    refine takeH (i := 15) (v := ?_) rfl (by kernel_rfl) (by kernel_rfl) (by kernel_rfl) (fun _ _ _ h => h) (Or.inl ⟨by kernel_rfl, ?_⟩) hHeld ?_
    rotate_left
    · intro w' hSw; obtain ⟨q0, q1, q2, q3, q4, q5, q6, q7, q8⟩ := hSw; go_simp; try with_reducible rfl
    (try simp only [Act.put, List.setIfInBounds_toArray, List.set_cons_zero, List.set_cons_succ])
    refine takeH (i := 16) (v := ?_) rfl (by kernel_rfl) (by kernel_rfl) (by kernel_rfl) (fun _ _ _ h => h) (Or.inl ⟨by kernel_rfl, ?_⟩) hHeld ?_
    rotate_left
    · intro w' hSw; obtain ⟨q0, q1, q2, q3, q4, q5, q6, q7, q8⟩ := hSw; go_simp; try with_reducible rfl
    (try simp only [Act.put, List.setIfInBounds_toArray, List.set_cons_zero, List.set_cons_succ])
    refine takeH (i := 17) (v := ?_) rfl (by kernel_rfl) (by kernel_rfl) (by kernel_rfl) (fun _ _ _ h => h) (Or.inl ⟨by kernel_rfl, ?_⟩) hHeld ?_
    rotate_left
    · intro w' hSw; obtain ⟨q0, q1, q2, q3, q4, q5, q6, q7, q8⟩ := hSw; go_simp; try with_reducible rfl
    (try simp only [Act.put, List.setIfInBounds_toArray, List.set_cons_zero, List.set_cons_succ])
    refine takeH (i := 18) (v := ?_) rfl (by kernel_rfl) (by kernel_rfl) (by kernel_rfl) (fun _ _ _ h => h) (Or.inl ⟨by kernel_rfl, ?_⟩) hHeld ?_
    rotate_left
    · intro w' hSw; obtain ⟨q0, q1, q2, q3, q4, q5, q6, q7, q8⟩ := hSw; go_simp; try with_reducible rfl
    (try simp only [Act.put, List.setIfInBounds_toArray, List.set_cons_zero, List.set_cons_succ])
    refine takeH (i := 19) (v := ?_) rfl (by kernel_rfl) (by kernel_rfl) (by kernel_rfl) (fun _ _ _ h => h) (Or.inl ⟨by kernel_rfl, ?_⟩) hHeld ?_
    rotate_left
    · intro w' hSw; obtain ⟨q0, q1, q2, q3, q4, q5, q6, q7, q8⟩ := hSw; go_simp; try with_reducible rfl
    (try simp only [Act.put, List.setIfInBounds_toArray, List.set_cons_zero, List.set_cons_succ])
    refine takeH (i := 20) (v := ?_) rfl (by kernel_rfl) (by kernel_rfl) (by kernel_rfl) (fun _ _ _ h => h) (Or.inl ⟨by kernel_rfl, ?_⟩) hHeld ?_
    rotate_left
    · intro w' hSw; obtain ⟨q0, q1, q2, q3, q4, q5, q6, q7, q8⟩ := hSw; go_simp; try with_reducible rfl
    (try simp only [Act.put, List.setIfInBounds_toArray, List.set_cons_zero, List.set_cons_succ])
    refine takeH (i := 21) (v := ?_) rfl (by kernel_rfl) (by kernel_rfl) (by kernel_rfl) (fun _ _ _ h => h) (Or.inl ⟨by kernel_rfl, ?_⟩) hHeld ?_
    rotate_left
    · intro w' hSw; obtain ⟨q0, q1, q2, q3, q4, q5, q6, q7, q8⟩ := hSw; go_simp; try with_reducible rfl
    (try simp only [Act.put, List.setIfInBounds_toArray, List.set_cons_zero, List.set_cons_succ])
    refine takeH (i := 22) (v := ?_) rfl (by kernel_rfl) (by kernel_rfl) (by kernel_rfl) (fun _ _ _ h => h) (Or.inl ⟨by kernel_rfl, ?_⟩) hHeld ?_
    rotate_left
    · intro w' hSw; obtain ⟨q0, q1, q2, q3, q4, q5, q6, q7, q8⟩ := hSw; go_simp; try with_reducible rfl
    (try simp only [Act.put, List.setIfInBounds_toArray, List.set_cons_zero, List.set_cons_succ])
    refine takeH (i := 23) (v := ?_) rfl (by kernel_rfl) (by kernel_rfl) (by kernel_rfl) (fun _ _ _ h => h) (Or.inl ⟨by kernel_rfl, ?_⟩) hHeld ?_
    rotate_left
    · intro w' hSw; obtain ⟨q0, q1, q2, q3, q4, q5, q6, q7, q8⟩ := hSw; go_simp; try with_reducible rfl
    (try simp only [Act.put, List.setIfInBounds_toArray, List.set_cons_zero, List.set_cons_succ])
    refine takeH (i := 24) (v := ?_) rfl (by kernel_rfl) (by kernel_rfl) (by kernel_rfl) (fun _ _ _ h => h) (Or.inl ⟨by kernel_rfl, ?_⟩) hHeld ?_
    rotate_left
    · intro w' hSw; obtain ⟨q0, q1, q2, q3, q4, q5, q6, q7, q8⟩ := hSw; go_simp; try with_reducible rfl
    (try simp only [Act.put, List.setIfInBounds_toArray, List.set_cons_zero, List.set_cons_succ])
    refine wpAnyH_ready (rs := [0, 25]) (by kernel_rfl) (by simp) ?_
    refine consH rfl (fun KK hKK => ?_) ?_
    · obtain ⟨q0, q1, q2, q3, q4, q5, q6, q7, q8⟩ := hHeld
      go_simp
      refine hKK.out _ _ ⟨q0, q1, q2, q3, q4, q5, q6, q7, q8⟩ (fun hHeld => ?_)
      clear hKK KK q0 q1 q2 q3 q4 q5 q6 q7 q8
      (try simp only [Act.put, List.setIfInBounds_toArray, List.set_cons_zero, List.set_cons_succ])
      refine wpAnyH_ready (rs := [25]) (by kernel_rfl) (by simp) ?_
      refine consH rfl (fun KK hKK => ?_) ?_
      · obtain ⟨q0, q1, q2, q3, q4, q5, q6, q7, q8⟩ := hHeld
        go_simp
        refine (HR.out _ _ ⟨gu, ou, cu, rfl, HC.out.low h0.qb.T hgu⟩).mono ?_
        rintro e w7 ⟨rfl, hb7⟩
        have h7 := h0.below hb7
        have l7 := hLst.below hb7
        have r7 := kept_none hGr (grow_below hb7)
        obtain ⟨_, la, lb⟩ := l7.one
        have hlk := h7.pk.look r HI.out.1 HI.out.2 (K : Int) HF.out
        simp only [prV] at hlk
        refine hKK.out _ _ h7.cells (fun hHeld => ?_)
        clear hKK KK q0 q1 q2 q3 q4 q5 q6 q7 q8
        (try simp only [Act.put, List.setIfInBounds_toArray, List.set_cons_zero, List.set_cons_succ])
        refine wpAnyH_ready (rs := [26]) (by kernel_rfl) (by simp) ?_
        refine consH rfl (fun KK hKK => ?_) ?_
        · obtain ⟨q0, q1, q2, q3, q4, q5, q6, q7, q8⟩ := hHeld
          go_simp
          refine hKK.out _ _ ⟨q0, q1, q2, q3, q4, q5, q6, q7, q8⟩ (fun hHeld => ?_)
          clear hKK KK q0 q1 q2 q3 q4 q5 q6 q7 q8
          (try simp only [Act.put, List.setIfInBounds_toArray, List.set_cons_zero, List.set_cons_succ])
          refine wpAnyH_ready (rs := [27]) (by kernel_rfl) (by simp) ?_
          refine consH rfl (fun KK hKK => ?_) ?_
          · obtain ⟨q0, q1, q2, q3, q4, q5, q6, q7, q8⟩ := hHeld
            go_simp
            have h8 := h7.below (own_alloc (own_refl w7) (.cells #[(.int .i64 ((K : Int)))] 2))
            have l8 := l7.alloc (.cells #[(.int .i64 ((K : Int)))] 2)
            have r8 := kept_none r7 (World.grownBy_alloc w7 (.cells #[(.int .i64 ((K : Int)))] 2) none)
            obtain ⟨w9, hr9, hG9, hg9⟩ := run_append_fits (P := Tryd.prog) (w7.alloc (.cells #[(.int .i64 ((K : Int)))] 2)) w.heap.size 22 22 2 i0 1 Tryd.underlying22 hi hz1 g4 j m _ r8 ⟨w7.heap.size, 0, none⟩ 1 1 [(.int .i64 ((K : Int)))] rfl (by intro k u hk; match k, hk with | 0, hk => simp at hk; subst hk; simp [Addr.add]) (by intro u hu; simp at hu; subst hu; rfl) (by omega)
            have h9 := h8.row hg9 (by omega) (by omega) (by omega) (by omega) h8.qb.T.size
            have l9 := l8.rowC hg9 (fun r e => by injection e with e; omega)
            obtain ⟨_, lc, ld⟩ := l8.one
            obtain ⟨_, le, lf⟩ := l9.one
            refine hKK.out _ _ h8.cells (fun hHeld => ?_)
            clear hKK KK q0 q1 q2 q3 q4 q5 q6 q7 q8
            (try simp only [Act.put, List.setIfInBounds_toArray, List.set_cons_zero, List.set_cons_succ])
            refine wpAnyH_ready (rs := [28]) (by kernel_rfl) (by simp) ?_
            refine consH rfl (fun KK hKK => ?_) ?_
            · obtain ⟨q0, q1, q2, q3, q4, q5, q6, q7, q8⟩ := hHeld
              refine step_fits (by rfl) _ _ (by rfl) (by rfl) (by rfl) hr9 ?_
              refine hKK.out _ _ h9.cells (fun hHeld => ?_)
              clear hKK KK q0 q1 q2 q3 q4 q5 q6 q7 q8
              (try simp only [Act.put, List.setIfInBounds_toArray, List.set_cons_zero, List.set_cons_succ])
              refine wpAnyH_ready (rs := [29]) (by kernel_rfl) (by simp) ?_
              refine consH rfl (fun KK hKK => ?_) ?_
              · obtain ⟨q0, q1, q2, q3, q4, q5, q6, q7, q8⟩ := hHeld
                go_simp
                refine hKK.out _ _ (h9.row (grownBy_setZ w9 ⟨g6, 0, none⟩ _) (by dsimp only; omega) (by dsimp only; omega) (by dsimp only; omega) (by dsimp only; omega) h9.qb.T.size).cells (fun hHeld => ?_)
                clear hKK KK q0 q1 q2 q3 q4 q5 q6 q7 q8
                (try simp only [Act.put, List.setIfInBounds_toArray, List.set_cons_zero, List.set_cons_succ])
                refine wpAnyH_done (by kernel_rfl) ?_ _
                refine ⟨(((KeepZ.grown (⟨rfl, rfl, rfl, Nat.le_refl _, fun _ _ _ => rfl⟩ : W.grownBy W.drew none) (fun r e => by cases e)).trans (KeepZ.grown (grow_below hb7) (fun r e => by cases e))).trans ((KeepZ.grown (World.grownBy_alloc _ _ none) (fun r e => by cases e)).trans (KeepZ.grown hg9 fun r e => by injection e with e; exact hNo r (.inl e.symm)))).trans (KeepZ.grown (grownBy_setZ w9 ⟨g6, 0, none⟩ _) fun r e => by injection e with e; exact hNo r (.inr e.symm)), ?_⟩
                obtain ⟨_, sA⟩ := hb7
                have sB := hg9.size
                simp only [World.size_alloc] at sA sB
                unfold QI
                rw [show (pre ++ [(p0, p1)]).length = j + 1 by simp [HJ.out], HKK.out, List.map_append]
                refine ⟨(h9.row (grownBy_setZ w9 ⟨g6, 0, none⟩ _) (by dsimp only; omega) (by dsimp only; omega) (by dsimp only; omega) (by dsimp only; omega) h9.qb.T.size).qb, by simp; omega, Box.set l9 0 (by simp) _, ?_⟩
                exact hG9.kept (grownBy_setZ w9 ⟨g6, 0, none⟩ _) (.inr fun e => by have e : some g4 = some g6 := e; injection e with e; omega)
              exact AllReadyH.nil
            exact AllReadyH.nil
          exact AllReadyH.nil
        exact AllReadyH.nil
      exact AllReadyH.nil
    refine consH rfl (fun KK hKK => ?_) ?_
    · obtain ⟨q0, q1, q2, q3, q4, q5, q6, q7, q8⟩ := hHeld
      go_simp
      refine (HR.out _ _ ⟨gu, ou, cu, rfl, HC.out.low h0.qb.T hgu⟩).mono ?_
      rintro e w7 ⟨rfl, hb7⟩
      have h7 := h0.below hb7
      have l7 := hLst.below hb7
      have r7 := kept_none hGr (grow_below hb7)
      obtain ⟨_, la, lb⟩ := l7.one
      have hlk := h7.pk.look r HI.out.1 HI.out.2 (K : Int) HF.out
      simp only [prV] at hlk
      refine hKK.out _ _ h7.cells (fun hHeld => ?_)
      clear hKK KK q0 q1 q2 q3 q4 q5 q6 q7 q8
      (try simp only [Act.put, List.setIfInBounds_toArray, List.set_cons_zero, List.set_cons_succ])
      refine wpAnyH_ready (rs := [0, 26]) (by kernel_rfl) (by simp) ?_
      refine consH rfl (fun KK hKK => ?_) ?_
      · obtain ⟨q0, q1, q2, q3, q4, q5, q6, q7, q8⟩ := hHeld
        go_simp
        refine hKK.out _ _ ⟨q0, q1, q2, q3, q4, q5, q6, q7, q8⟩ (fun hHeld => ?_)
        clear hKK KK q0 q1 q2 q3 q4 q5 q6 q7 q8
        (try simp only [Act.put, List.setIfInBounds_toArray, List.set_cons_zero, List.set_cons_succ])
        refine wpAnyH_ready (rs := [26]) (by kernel_rfl) (by simp) ?_
        refine consH rfl (fun KK hKK => ?_) ?_
        · obtain ⟨q0, q1, q2, q3, q4, q5, q6, q7, q8⟩ := hHeld
          go_simp
          refine hKK.out _ _ ⟨q0, q1, q2, q3, q4, q5, q6, q7, q8⟩ (fun hHeld => ?_)
          clear hKK KK q0 q1 q2 q3 q4 q5 q6 q7 q8
          (try simp only [Act.put, List.setIfInBounds_toArray, List.set_cons_zero, List.set_cons_succ])
          refine wpAnyH_ready (rs := [27]) (by kernel_rfl) (by simp) ?_
          refine consH rfl (fun KK hKK => ?_) ?_
          · obtain ⟨q0, q1, q2, q3, q4, q5, q6, q7, q8⟩ := hHeld
            go_simp
            have h8 := h7.below (own_alloc (own_refl w7) (.cells #[(.int .i64 ((K : Int)))] 2))
            have l8 := l7.alloc (.cells #[(.int .i64 ((K : Int)))] 2)
            have r8 := kept_none r7 (World.grownBy_alloc w7 (.cells #[(.int .i64 ((K : Int)))] 2) none)
            obtain ⟨w9, hr9, hG9, hg9⟩ := run_append_fits (P := Tryd.prog) (w7.alloc (.cells #[(.int .i64 ((K : Int)))] 2)) w.heap.size 22 22 2 i0 1 Tryd.underlying22 hi hz1 g4 j m _ r8 ⟨w7.heap.size, 0, none⟩ 1 1 [(.int .i64 ((K : Int)))] rfl (by intro k u hk; match k, hk with | 0, hk => simp at hk; subst hk; simp [Addr.add]) (by intro u hu; simp at hu; subst hu; rfl) (by omega)
            have h9 := h8.row hg9 (by omega) (by omega) (by omega) (by omega) h8.qb.T.size
            have l9 := l8.rowC hg9 (fun r e => by injection e with e; omega)
            obtain ⟨_, lc, ld⟩ := l8.one
            obtain ⟨_, le, lf⟩ := l9.one
            refine hKK.out _ _ h8.cells (fun hHeld => ?_)
            clear hKK KK q0 q1 q2 q3 q4 q5 q6 q7 q8
            (try simp only [Act.put, List.setIfInBounds_toArray, List.set_cons_zero, List.set_cons_succ])
            refine wpAnyH_ready (rs := [28]) (by kernel_rfl) (by simp) ?_
            refine consH rfl (fun KK hKK => ?_) ?_
            · obtain ⟨q0, q1, q2, q3, q4, q5, q6, q7, q8⟩ := hHeld
              refine step_fits (by rfl) _ _ (by rfl) (by rfl) (by rfl) hr9 ?_
              refine hKK.out _ _ h9.cells (fun hHeld => ?_)
              clear hKK KK q0 q1 q2 q3 q4 q5 q6 q7 q8
              (try simp only [Act.put, List.setIfInBounds_toArray, List.set_cons_zero, List.set_cons_succ])
              refine wpAnyH_ready (rs := [29]) (by kernel_rfl) (by simp) ?_
              refine consH rfl (fun KK hKK => ?_) ?_
              · obtain ⟨q0, q1, q2, q3, q4, q5, q6, q7, q8⟩ := hHeld
                go_simp
                refine hKK.out _ _ (h9.row (grownBy_setZ w9 ⟨g6, 0, none⟩ _) (by dsimp only; omega) (by dsimp only; omega) (by dsimp only; omega) (by dsimp only; omega) h9.qb.T.size).cells (fun hHeld => ?_)
                clear hKK KK q0 q1 q2 q3 q4 q5 q6 q7 q8
                (try simp only [Act.put, List.setIfInBounds_toArray, List.set_cons_zero, List.set_cons_succ])
                refine wpAnyH_done (by kernel_rfl) ?_ _
                refine ⟨(((KeepZ.grown (⟨rfl, rfl, rfl, Nat.le_refl _, fun _ _ _ => rfl⟩ : W.grownBy W.drew none) (fun r e => by cases e)).trans (KeepZ.grown (grow_below hb7) (fun r e => by cases e))).trans ((KeepZ.grown (World.grownBy_alloc _ _ none) (fun r e => by cases e)).trans (KeepZ.grown hg9 fun r e => by injection e with e; exact hNo r (.inl e.symm)))).trans (KeepZ.grown (grownBy_setZ w9 ⟨g6, 0, none⟩ _) fun r e => by injection e with e; exact hNo r (.inr e.symm)), ?_⟩
                obtain ⟨_, sA⟩ := hb7
                have sB := hg9.size
                simp only [World.size_alloc] at sA sB
                unfold QI
                rw [show (pre ++ [(p0, p1)]).length = j + 1 by simp [HJ.out], HKK.out, List.map_append]
                refine ⟨(h9.row (grownBy_setZ w9 ⟨g6, 0, none⟩ _) (by dsimp only; omega) (by dsimp only; omega) (by dsimp only; omega) (by dsimp only; omega) h9.qb.T.size).qb, by simp; omega, Box.set l9 0 (by simp) _, ?_⟩
                exact hG9.kept (grownBy_setZ w9 ⟨g6, 0, none⟩ _) (.inr fun e => by have e : some g4 = some g6 := e; injection e with e; omega)
              exact AllReadyH.nil
            exact AllReadyH.nil
          exact AllReadyH.nil
        exact AllReadyH.nil
      refine consH rfl (fun KK hKK => ?_) ?_
      · obtain ⟨q0, q1, q2, q3, q4, q5, q6, q7, q8⟩ := hHeld
        go_simp
        refine hKK.out _ _ ⟨q0, q1, q2, q3, q4, q5, q6, q7, q8⟩ (fun hHeld => ?_)
        clear hKK KK q0 q1 q2 q3 q4 q5 q6 q7 q8
        (try simp only [Act.put, List.setIfInBounds_toArray, List.set_cons_zero, List.set_cons_succ])
        refine wpAnyH_ready (rs := [0, 27]) (by kernel_rfl) (by simp) ?_
        refine consH rfl (fun KK hKK => ?_) ?_
        · obtain ⟨q0, q1, q2, q3, q4, q5, q6, q7, q8⟩ := hHeld
          go_simp
          refine hKK.out _ _ ⟨q0, q1, q2, q3, q4, q5, q6, q7, q8⟩ (fun hHeld => ?_)
          clear hKK KK q0 q1 q2 q3 q4 q5 q6 q7 q8
          (try simp only [Act.put, List.setIfInBounds_toArray, List.set_cons_zero, List.set_cons_succ])
          refine wpAnyH_ready (rs := [27]) (by kernel_rfl) (by simp) ?_
          refine consH rfl (fun KK hKK => ?_) ?_
          · obtain ⟨q0, q1, q2, q3, q4, q5, q6, q7, q8⟩ := hHeld
            go_simp
            have h8 := h7.below (own_alloc (own_refl w7) (.cells #[(.int .i64 ((K : Int)))] 2))
            have l8 := l7.alloc (.cells #[(.int .i64 ((K : Int)))] 2)
            have r8 := kept_none r7 (World.grownBy_alloc w7 (.cells #[(.int .i64 ((K : Int)))] 2) none)
            obtain ⟨w9, hr9, hG9, hg9⟩ := run_append_fits (P := Tryd.prog) (w7.alloc (.cells #[(.int .i64 ((K : Int)))] 2)) w.heap.size 22 22 2 i0 1 Tryd.underlying22 hi hz1 g4 j m _ r8 ⟨w7.heap.size, 0, none⟩ 1 1 [(.int .i64 ((K : Int)))] rfl (by intro k u hk; match k, hk with | 0, hk => simp at hk; subst hk; simp [Addr.add]) (by intro u hu; simp at hu; subst hu; rfl) (by omega)
            have h9 := h8.row hg9 (by omega) (by omega) (by omega) (by omega) h8.qb.T.size
            have l9 := l8.rowC hg9 (fun r e => by injection e with e; omega)
            obtain ⟨_, lc, ld⟩ := l8.one
            obtain ⟨_, le, lf⟩ := l9.one
            refine hKK.out _ _ h8.cells (fun hHeld => ?_)
            clear hKK KK q0 q1 q2 q3 q4 q5 q6 q7 q8
            (try simp only [Act.put, List.setIfInBounds_toArray, List.set_cons_zero, List.set_cons_succ])
            refine wpAnyH_ready (rs := [28]) (by kernel_rfl) (by simp) ?_
            refine consH rfl (fun KK hKK => ?_) ?_
            · obtain ⟨q0, q1, q2, q3, q4, q5, q6, q7, q8⟩ := hHeld
              refine step_fits (by rfl) _ _ (by rfl) (by rfl) (by rfl) hr9 ?_
              refine hKK.out _ _ h9.cells (fun hHeld => ?_)
              clear hKK KK q0 q1 q2 q3 q4 q5 q6 q7 q8
              (try simp only [Act.put, List.setIfInBounds_toArray, List.set_cons_zero, List.set_cons_succ])
              refine wpAnyH_ready (rs := [29]) (by kernel_rfl) (by simp) ?_
              refine consH rfl (fun KK hKK => ?_) ?_
              · obtain ⟨q0, q1, q2, q3, q4, q5, q6, q7, q8⟩ := hHeld
                go_simp
                refine hKK.out _ _ (h9.row (grownBy_setZ w9 ⟨g6, 0, none⟩ _) (by dsimp only; omega) (by dsimp only; omega) (by dsimp only; omega) (by dsimp only; omega) h9.qb.T.size).cells (fun hHeld => ?_)
                clear hKK KK q0 q1 q2 q3 q4 q5 q6 q7 q8
                (try simp only [Act.put, List.setIfInBounds_toArray, List.set_cons_zero, List.set_cons_succ])
                refine wpAnyH_done (by kernel_rfl) ?_ _
                refine ⟨(((KeepZ.grown (⟨rfl, rfl, rfl, Nat.le_refl _, fun _ _ _ => rfl⟩ : W.grownBy W.drew none) (fun r e => by cases e)).trans (KeepZ.grown (grow_below hb7) (fun r e => by cases e))).trans ((KeepZ.grown (World.grownBy_alloc _ _ none) (fun r e => by cases e)).trans (KeepZ.grown hg9 fun r e => by injection e with e; exact hNo r (.inl e.symm)))).trans (KeepZ.grown (grownBy_setZ w9 ⟨g6, 0, none⟩ _) fun r e => by injection e with e; exact hNo r (.inr e.symm)), ?_⟩
                obtain ⟨_, sA⟩ := hb7
                have sB := hg9.size
                simp only [World.size_alloc] at sA sB
                unfold QI
                rw [show (pre ++ [(p0, p1)]).length = j + 1 by simp [HJ.out], HKK.out, List.map_append]
                refine ⟨(h9.row (grownBy_setZ w9 ⟨g6, 0, none⟩ _) (by dsimp only; omega) (by dsimp only; omega) (by dsimp only; omega) (by dsimp only; omega) h9.qb.T.size).qb, by simp; omega, Box.set l9 0 (by simp) _, ?_⟩
                exact hG9.kept (grownBy_setZ w9 ⟨g6, 0, none⟩ _) (.inr fun e => by have e : some g4 = some g6 := e; injection e with e; omega)
              exact AllReadyH.nil
            exact AllReadyH.nil
          exact AllReadyH.nil
        refine consH rfl (fun KK hKK => ?_) ?_
        · obtain ⟨q0, q1, q2, q3, q4, q5, q6, q7, q8⟩ := hHeld
          go_simp
          have h8 := h7.below (own_alloc (own_refl w7) (.cells #[(.int .i64 ((K : Int)))] 2))
          have l8 := l7.alloc (.cells #[(.int .i64 ((K : Int)))] 2)
          have r8 := kept_none r7 (World.grownBy_alloc w7 (.cells #[(.int .i64 ((K : Int)))] 2) none)
          obtain ⟨w9, hr9, hG9, hg9⟩ := run_append_fits (P := Tryd.prog) (w7.alloc (.cells #[(.int .i64 ((K : Int)))] 2)) w.heap.size 22 22 2 i0 1 Tryd.underlying22 hi hz1 g4 j m _ r8 ⟨w7.heap.size, 0, none⟩ 1 1 [(.int .i64 ((K : Int)))] rfl (by intro k u hk; match k, hk with | 0, hk => simp at hk; subst hk; simp [Addr.add]) (by intro u hu; simp at hu; subst hu; rfl) (by omega)
          have h9 := h8.row hg9 (by omega) (by omega) (by omega) (by omega) h8.qb.T.size
          have l9 := l8.rowC hg9 (fun r e => by injection e with e; omega)
          obtain ⟨_, lc, ld⟩ := l8.one
          obtain ⟨_, le, lf⟩ := l9.one
          refine hKK.out _ _ h8.cells (fun hHeld => ?_)
          clear hKK KK q0 q1 q2 q3 q4 q5 q6 q7 q8
          (try simp only [Act.put, List.setIfInBounds_toArray, List.set_cons_zero, List.set_cons_succ])
          refine wpAnyH_ready (rs := [0]) (by kernel_rfl) (by simp) ?_
          refine consH rfl (fun KK hKK => ?_) ?_
          · obtain ⟨q0, q1, q2, q3, q4, q5, q6, q7, q8⟩ := hHeld
            go_simp
            refine hKK.out _ _ ⟨q0, q1, q2, q3, q4, q5, q6, q7, q8⟩ (fun hHeld => ?_)
            clear hKK KK q0 q1 q2 q3 q4 q5 q6 q7 q8
            (try simp only [Act.put, List.setIfInBounds_toArray, List.set_cons_zero, List.set_cons_succ])
            refine wpAnyH_ready (rs := [28]) (by kernel_rfl) (by simp) ?_
            refine consH rfl (fun KK hKK => ?_) ?_
            · obtain ⟨q0, q1, q2, q3, q4, q5, q6, q7, q8⟩ := hHeld
              refine step_fits (by rfl) _ _ (by rfl) (by rfl) (by rfl) hr9 ?_
              refine hKK.out _ _ h9.cells (fun hHeld => ?_)
              clear hKK KK q0 q1 q2 q3 q4 q5 q6 q7 q8
              (try simp only [Act.put, List.setIfInBounds_toArray, List.set_cons_zero, List.set_cons_succ])
              refine wpAnyH_ready (rs := [29]) (by kernel_rfl) (by simp) ?_
              refine consH rfl (fun KK hKK => ?_) ?_
              · obtain ⟨q0, q1, q2, q3, q4, q5, q6, q7, q8⟩ := hHeld
                go_simp
                refine hKK.out _ _ (h9.row (grownBy_setZ w9 ⟨g6, 0, none⟩ _) (by dsimp only; omega) (by dsimp only; omega) (by dsimp only; omega) (by dsimp only; omega) h9.qb.T.size).cells (fun hHeld => ?_)
                clear hKK KK q0 q1 q2 q3 q4 q5 q6 q7 q8
                (try simp only [Act.put, List.setIfInBounds_toArray, List.set_cons_zero, List.set_cons_succ])
                refine wpAnyH_done (by kernel_rfl) ?_ _
                refine ⟨(((KeepZ.grown (⟨rfl, rfl, rfl, Nat.le_refl _, fun _ _ _ => rfl⟩ : W.grownBy W.drew none) (fun r e => by cases e)).trans (KeepZ.grown (grow_below hb7) (fun r e => by cases e))).trans ((KeepZ.grown (World.grownBy_alloc _ _ none) (fun r e => by cases e)).trans (KeepZ.grown hg9 fun r e => by injection e with e; exact hNo r (.inl e.symm)))).trans (KeepZ.grown (grownBy_setZ w9 ⟨g6, 0, none⟩ _) fun r e => by injection e with e; exact hNo r (.inr e.symm)), ?_⟩
                obtain ⟨_, sA⟩ := hb7
                have sB := hg9.size
                simp only [World.size_alloc] at sA sB
                unfold QI
                rw [show (pre ++ [(p0, p1)]).length = j + 1 by simp [HJ.out], HKK.out, List.map_append]
                refine ⟨(h9.row (grownBy_setZ w9 ⟨g6, 0, none⟩ _) (by dsimp only; omega) (by dsimp only; omega) (by dsimp only; omega) (by dsimp only; omega) h9.qb.T.size).qb, by simp; omega, Box.set l9 0 (by simp) _, ?_⟩
                exact hG9.kept (grownBy_setZ w9 ⟨g6, 0, none⟩ _) (.inr fun e => by have e : some g4 = some g6 := e; injection e with e; omega)
              exact AllReadyH.nil
            exact AllReadyH.nil
          exact AllReadyH.nil
        exact AllReadyH.nil
      exact AllReadyH.nil
    exact AllReadyH.nil
  case done =>
    rintro ys W hS ⟨⟨T, _, _, _, _⟩, hsz, hB, hG⟩ hD
    subst hS
    obtain ⟨_, ll, lm⟩ := hB.one
    gi_wp2
    refine ⟨by simp, .inl ⟨_, _, rfl, run_takeDeferred hD, ?_⟩⟩
    have hGx : (W.putObj W3.heap.size (.deferred none)).ownsRow w.heap.size 2 1 (.slice (some ⟨g4, 0, none⟩) (ln n).length m) (ledL n a b c d (ln n)).length ((ledL n a b c d (ln n)).map fun x => (.int .i64 x)) := by
      rw [show (ledL n a b c d (ln n)).length = (ln n).length by simp [ledL]]
      exact World.ownsRow.kept hG (grownBy_putObj' W W3.heap.size (.deferred none)) (.inr fun e => by have e : some g4 = some W3.heap.size := e; injection e with e; omega)
    exact ⟨_, by simp [results, Tryd.results35, go_sem], _, rfl, hGx, T.grown (grownBy_putObj' _ _ _) T.size (fun k e => by cases e; omega)⟩
  case stop =>
    rintro c pre W hpre hI hD
    exact hI.elim
end Go.Proofs.YtdcomnnpnhinfaaDoor
