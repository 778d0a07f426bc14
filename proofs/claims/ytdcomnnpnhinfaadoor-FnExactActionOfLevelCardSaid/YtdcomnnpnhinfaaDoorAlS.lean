/- ActionOfLevel: the model's side. -/
import Derived.Test.YtdcomnnpnhinfaaDoorAlJ
import Derived.Test.YtdcomnnpnhinfaaDoorIlN
import Derived.Test.YtdcomnnpnhinfaaDoorIlO
import Derived.Test.YtdcomnnpnhinfaaDoorCo
import Derived.Deep.RegionLaw
import Derived.Maps.AppendAt
namespace Go.Proofs.YtdcomnnpnhinfaaDoor
open Go.ChangeShapes Go.WideShapes Go.ChangeAt Go.RowKit

theorem step_app64At {ops : Array Oper} {o : Oper} {a : Act} {W : World} {K : Act → World → Prop} {Q : Exit → Act → World → Prop} {E : Prop} (hgd : o.guard = none) (s x : Operand)
    (ho : o.op = .call { callee := .builtin .append, args := #[s, x], argTypes := #[22, 22] })
    (L : Nat) (v : Value) (xs : List Int) (y : Int) (hs : a.eval s = v) (hown : Gr W L v xs) (g : Nat) (hx : a.eval x = .slice (some ⟨g, 0, none⟩) 1 1)
    (hc : W.cell? ⟨g, 0, none⟩ = some (.int .i64 y)) (hlen : xs.length ≤ 9000000000) (hL : L ≤ W.heap.size)
    (h : ∀ v' w', Gr w' L v' (xs ++ [y]) → W.grownBy w' v.ownBlock → (v'.ownBlock = v.ownBlock ∨ v'.ownBlock = some W.heap.size) → Below L W w' → K (a.put o.dst v') w') :
    if Region.wanted o (yielded ops a.tmps) = true then Oper.wp Tryd.prog o a W K Q else E := by
  have hw : Region.wanted o (yielded ops a.tmps) = true := by simp [Region.wanted, hgd]
  rw [if_pos hw]
  obtain ⟨i0, hi, hz0, hz1, hz2⟩ := info_parts info_i64
  have hl : ([(.int .i64 y)] : List Value).length = 1 * 1 := rfl
  obtain ⟨v', w', hr, hown', hgrow, _, hat⟩ := run_append_own_at (P := Tryd.prog) W L 22 o.type 2 i0 (.int .i64 0) 1 8 Tryd.underlying22 hi hz0 hz1 hz2 rfl (by decide) v xs.length _ hown ⟨g, 0, none⟩ 1 1 [(.int .i64 y)] hl (fun j u hj => by
      match j, hj with
      | 0, hj => simp at hj; subst hj; simpa [Addr.add] using hc) (fun u hu => by simp at hu; subst hu; rfl) (by unfold maxLen; omega) (by omega) hL
  unfold Oper.wp execOp
  simp only [ho, resolve, invoke, builtin, Sem.run_bind, Sem.run_pure, Result.andThen_ok, List.map_toArray, List.map_cons, List.map_nil, hs, hx, hr]
  refine h v' w' ?_ hgrow hat ?_
  · have e : (xs ++ [y]).length = xs.length + 1 := by simp
    unfold Gr
    rw [e, List.map_append]
    exact hown'
  · exact (Below.refl L W).grown hgrow hL (fun j hj => (hown.lt j hj).1)
theorem isP_S' {n c d : Int} (h : isP n c d = true) : isP n d (-c) = true := isP_S h
theorem take_snoc' {xs : List Int} {k : Nat} (h : k < xs.length) : xs.take k ++ [xs.getD k 0] = xs.take (k + 1) := by
  rw [List.take_add_one, List.getElem?_eq_getElem h]
  simp [List.getD, List.getElem?_eq_getElem h]
theorem ledL_len' (n a b c d : Int) (l : List (Int × Int)) : (ledL n a b c d l).length = l.length := by simp [ledL]
theorem grownSetL (w : World) (p : Addr) (u : Value) : w.grownBy (w.setCell p u) (some p.block) :=
  ⟨rfl, rfl, rfl, by simp [World.setCell], fun k _ hk => Below.heap_setCell w p u k (fun e => hk (by rw [e]))⟩
theorem Gr.farL {w : World} {L : Nat} {v : Value} {xs : List Int} (h : Gr w L v xs) {p : Addr} (hp : v.ownBlock ≠ some p.block) (u : Value) : Gr (w.setCell p u) L v xs := by
  refine World.ownsRow.kept h (grownSetL w p u) ?_
  rcases e : v.ownBlock with _ | k
  · exact .inl rfl
  · exact .inr fun he => hp (by rw [e, he])
theorem Gr.keepL {w w' : World} {L : Nat} {v u : Value} {xs : List Int} (h : Gr w L v xs) (hg : w.grownBy w' u.ownBlock) (hp : ∀ b, v.ownBlock = some b → u.ownBlock ≠ some b) : Gr w' L v xs := by
  refine World.ownsRow.kept h hg ?_
  rcases e : v.ownBlock with _ | k
  · exact .inl rfl
  · exact .inr fun he => hp k e he.symm
theorem Box.keepL {w w' : World} {g : Nat} {xs : List Value} {u : Value} (h : Box w g xs) (hg : w.grownBy w' u.ownBlock) (hp : u.ownBlock ≠ some g) : Box w' g xs := by
  have hb := hg.5 g h.1 (fun e => hp e.symm)
  refine ⟨Nat.lt_of_lt_of_le h.1 hg.4, fun i v hv => ⟨?_, ?_⟩⟩
  · exact (World.cell?_of_block (w := w) (a := ⟨g, i, none⟩) hb).trans (h.2 i v hv).1
  · exact (World.frozen?_of_block (w := w) (a := ⟨g, i, none⟩) hb).trans (h.2 i v hv).2
/-- what the model's loop keeps -/
structure AlK (w3 wr : World) (gy : Nat) (vS vT : Value) (xs ys : List Int) : Prop where
  below : Below w3.heap.size w3 wr
  box : Box wr gy [vS, vT]
  s : Gr wr w3.heap.size vS xs
  t : Gr wr w3.heap.size vT ys
  apart : ∀ b, vS.ownBlock = some b → vT.ownBlock ≠ some b
  ns : vS.ownBlock ≠ some gy
  nt : vT.ownBlock ≠ some gy
theorem AlK.drew {w3 wr : World} {gy : Nat} {vS vT : Value} {xs ys : List Int} (h : AlK w3 wr gy vS vT xs ys) : AlK w3 wr.drew gy vS vT xs ys :=
  ⟨own_drew h.below, h.box.drew, h.s.drew, h.t.drew, h.apart, h.ns, h.nt⟩
theorem AlK.own {w3 wr w' : World} {gy : Nat} {vS vT : Value} {xs ys : List Int} (h : AlK w3 wr gy vS vT xs ys) (hb : Below wr.heap.size wr w') : AlK w3 w' gy vS vT xs ys :=
  ⟨own_trans h.below hb, h.box.below hb, h.s.own hb, h.t.own hb, h.apart, h.ns, h.nt⟩
/-- S has grown -/
theorem AlK.putS {w3 wr w' : World} {gy : Nat} {vS vT v' : Value} {xs ys zs : List Int} (h : AlK w3 wr gy vS vT xs ys) (hG : Gr w' w3.heap.size v' zs) (hg : wr.grownBy w' vS.ownBlock) (hat : v'.ownBlock = vS.ownBlock ∨ v'.ownBlock = some wr.heap.size) (hb : Below w3.heap.size wr w') (hy : w3.heap.size ≤ gy) :
    AlK w3 (w'.setCell ⟨gy, 0, none⟩ v') gy v' vT zs ys := by
  have hgy := h.box.1
  have n1 : v'.ownBlock ≠ some gy := by
    rcases hat with e | e
    · rw [e]; exact h.ns
    · rw [e]; intro e2; injection e2; omega
  have n2 : ∀ b, v'.ownBlock = some b → vT.ownBlock ≠ some b := by
    intro b h1 h2
    rcases hat with e | e
    · exact h.apart b (by rw [← e]; exact h1) h2
    · rw [e] at h1
      injection h1 with h1
      have := (h.t.lt b h2).2
      omega
  have T' : Gr w' w3.heap.size vT ys := h.t.keepL hg (fun b h1 h2 => h.apart b h2 h1)
  have B' := (h.box.keepL hg h.ns).set 0 (by simp) v'
  exact ⟨own_setCell (h.below.trans hb) hy v', B', hG.farL n1 _, T'.farL h.nt _, n2, n1, h.nt⟩
/-- T has grown -/
theorem AlK.putT {w3 wr w' : World} {gy : Nat} {vS vT v' : Value} {xs ys zs : List Int} (h : AlK w3 wr gy vS vT xs ys) (hG : Gr w' w3.heap.size v' zs) (hg : wr.grownBy w' vT.ownBlock) (hat : v'.ownBlock = vT.ownBlock ∨ v'.ownBlock = some wr.heap.size) (hb : Below w3.heap.size wr w') (hy : w3.heap.size ≤ gy) :
    AlK w3 (w'.setCell ⟨gy, 1, none⟩ v') gy vS v' xs zs := by
  have hgy := h.box.1
  have n1 : v'.ownBlock ≠ some gy := by
    rcases hat with e | e
    · rw [e]; exact h.nt
    · rw [e]; intro e2; injection e2; omega
  have n2 : ∀ b, vS.ownBlock = some b → v'.ownBlock ≠ some b := by
    intro b h1 h2
    rcases hat with e | e
    · exact h.apart b h1 (by rw [← e]; exact h2)
    · rw [e] at h2
      injection h2 with h2
      have := (h.s.lt b h1).2
      omega
  have S' : Gr w' w3.heap.size vS xs := h.s.keepL hg h.apart
  have B' := (h.box.keepL hg h.nt).set 1 (by simp) v'
  exact ⟨own_setCell (h.below.trans hb) hy v', B', S'.farL h.ns _, hG.farL n1 _, n2, h.ns, n1⟩
set_option maxHeartbeats 2000000 in
theorem specAl_no (n : Int) (hn : inR n 1 60 = false) (w : World) : Calls Tryd.prog 8 #[(.int .i64 n)] w (RetAl [] [] 2 w) := by
  have HN := Lib.hid hn
  clear hn
  go_enter Tryd.func8, Tryd.ntmps8
  go_wp2_with fail
  refine (l01In_is false _ _ _ HN.out _).mono ?_
  rintro e w2 ⟨rfl, rfl⟩
  have B : Box (w.alloc (.cells #[.slice none 0 0, .slice none 0 0] 24)) w.heap.size [.slice none 0 0, .slice none 0 0] := Box.new _ _ _
  have T := own_alloc (own_refl w) (.cells #[.slice none 0 0, .slice none 0 0] 24)
  generalize w.alloc (.cells #[.slice none 0 0, .slice none 0 0] 24) = w1 at *
  obtain ⟨-, d0, d1, f0, f1⟩ := B.two
  have C9 := B.put2 (.slice none 0 0) (.slice none 0 0)
  obtain ⟨-, x0, x1, -, -⟩ := C9.two
  have T9 := own_setCell (own_setCell T (p := ⟨w.heap.size, 0, none⟩) (by simp) (.slice none 0 0)) (p := ⟨w.heap.size, 1, none⟩) (by simp) (.slice none 0 0)
  go_wp2
  exact bodyPost_ret (v := .tuple #[.agg #[.slice none 0 0, .slice none 0 0], (.int .i64 2)]) (by simp [results, Tryd.results8, go_sem, x0, x1]) rfl (nilAl T9 2)
set_option maxHeartbeats 4000000 in
theorem specAl_big (n : Int) (hn : inR n 1 60 = true) (N : Nat) (hN : (ln n).length = N) (hx : 72 < N) (w : World) : Calls Tryd.prog 8 #[(.int .i64 n)] w (RetAl [] [] 3 w) := by
  have hn' : 1 ≤ n ∧ n ≤ 60 := of_decide_eq_true hn
  have HN := Lib.hid hn
  have HL := Lib.hid (fun w => l06Line_is n hn'.1 hn'.2 w)
  have hpl : (prs (ln n)).length = N := by simp [prs, hN]
  have HPL := Lib.hid hpl
  have hx' : 72 < (N : Int) := by omega
  clear hn hn' hN hpl
  go_enter Tryd.func8, Tryd.ntmps8
  go_wp2_with fail
  refine (l01In_is true _ _ _ HN.out _).mono ?_
  rintro e w2 ⟨rfl, rfl⟩
  have B : Box (w.alloc (.cells #[.slice none 0 0, .slice none 0 0] 24)) w.heap.size [.slice none 0 0, .slice none 0 0] := Box.new _ _ _
  have T := own_alloc (own_refl w) (.cells #[.slice none 0 0, .slice none 0 0] 24)
  generalize w.alloc (.cells #[.slice none 0 0, .slice none 0 0] 24) = w1 at *
  go_wp2_with fail
  refine (HL.out _).mono ?_
  rintro e w3 ⟨v3, rfl, G3, hb3⟩
  obtain ⟨ad, cap, e⟩ := G3.shape
  subst e
  rw [HPL.out]
  have B := B.below hb3
  have T := own_trans T hb3
  clear hb3 G3
  obtain ⟨-, d0, d1, f0, f1⟩ := B.two
  have C9 := B.put2 (.slice none 0 0) (.slice none 0 0)
  obtain ⟨-, x0, x1, -, -⟩ := C9.two
  have T9 := own_setCell (own_setCell T (p := ⟨w.heap.size, 0, none⟩) (by simp) (.slice none 0 0)) (p := ⟨w.heap.size, 1, none⟩) (by simp) (.slice none 0 0)
  go_wp2
  exact bodyPost_ret (v := .tuple #[.agg #[.slice none 0 0, .slice none 0 0], (.int .i64 3)]) (by simp [results, Tryd.results8, go_sem, x0, x1]) rfl (nilAl T9 3)
set_option maxRecDepth 100000 in
set_option maxHeartbeats 8000000 in
theorem specAl_yes (n : Int) (hn : inR n 1 60 = true) (N : Nat) (hN : (ln n).length = N) (hx : N ≤ 72) (w : World) : Calls Tryd.prog 8 #[(.int .i64 n)] w (RetAl (ledL n 0 (-1) 1 0 (ln n)) (ledL n 1 1 0 1 (ln n)) 0 w) := by
  have hn' : 1 ≤ n ∧ n ≤ 60 := of_decide_eq_true hn
  have HN := Lib.hid hn
  have HB := Lib.hid hn'
  have HL := Lib.hid (fun w => l06Line_is n hn'.1 hn'.2 w)
  have hpl : (prs (ln n)).length = N := by simp [prs, hN]
  have HPL := Lib.hid hpl
  have HNL := Lib.hid hN
  obtain ⟨l1, hl1⟩ : ∃ l, ledL n 0 (-1) 1 0 (ln n) = l := ⟨_, rfl⟩
  obtain ⟨l2, hl2⟩ : ∃ l, ledL n 1 1 0 1 (ln n) = l := ⟨_, rfl⟩
  have H1 := Lib.hid hl1
  have H2 := Lib.hid hl2
  have HLL : Hid (l1.length = N ∧ l2.length = N) := Lib.hid ⟨by rw [← hl1, ledL_len', hN], by rw [← hl2, ledL_len', hN]⟩
  rw [hl1, hl2]
  clear hn hn' hN hpl hl1 hl2
  go_enter Tryd.func8, Tryd.ntmps8
  go_wp2_with fail
  refine (l01In_is true _ _ _ HN.out _).mono ?_
  rintro e w2 ⟨rfl, rfl⟩
  have B : Box (w.alloc (.cells #[.slice none 0 0, .slice none 0 0] 24)) w.heap.size [.slice none 0 0, .slice none 0 0] := Box.new _ _ _
  have T := own_alloc (own_refl w) (.cells #[.slice none 0 0, .slice none 0 0] 24)
  generalize w.alloc (.cells #[.slice none 0 0, .slice none 0 0] 24) = w1 at *
  go_wp2_with fail
  refine (HL.out _).mono ?_
  rintro e w3 ⟨v3, rfl, G3, hb3⟩
  obtain ⟨ad, cap, e⟩ := G3.shape
  subst e
  rw [HPL.out]
  have HG := Lib.hid G3
  have B := B.below hb3
  have T := own_trans T hb3
  have hz3 := T.size
  have hgr := B.1
  clear hb3 G3
  have A0 : AlK w3 (((w3.alloc (.cells #[] 2)).alloc (.cells #[] 2)).alloc (.cells #[.slice (some ⟨w3.heap.size, 0, none⟩) 0 0, .slice (some ⟨w3.heap.size + 1, 0, none⟩) 0 0] 24)) (w3.heap.size + 1 + 1) (.slice (some ⟨w3.heap.size, 0, none⟩) 0 0) (.slice (some ⟨w3.heap.size + 1, 0, none⟩) 0 0) [] [] :=
    ⟨own_alloc (own_alloc (own_alloc (own_refl _) _) _) _, Box.newAt (by simp) _ _,
      ((World.ownsRow_lit w3 #[] 0 (Nat.le_refl _) (by unfold maxLen; omega) rfl : Gr (w3.alloc (.cells #[] 2)) w3.heap.size (.slice (some ⟨w3.heap.size, 0, none⟩) 0 0) []).alloc _).alloc _,
      Gr.alloc (by
        have h : Gr ((w3.alloc (.cells #[] 2)).alloc (.cells #[] 2)) w3.heap.size (.slice (some ⟨(w3.alloc (.cells #[] 2)).heap.size, 0, none⟩) 0 0) [] := World.ownsRow_lit (w3.alloc (.cells #[] 2)) #[] 0 (by simp) (by unfold maxLen; omega) rfl
        simpa using h) _,
      fun b h1 h2 => by simp [Value.ownBlock] at h1 h2; omega, by simp [Value.ownBlock]; omega, by simp [Value.ownBlock]⟩
  go_upto_region 7 with fail
  have hy : w3.heap.size ≤ w3.heap.size + 1 + 1 := by omega
  generalize ((w3.alloc (.cells #[] 2)).alloc (.cells #[] 2)).alloc (.cells #[.slice (some ⟨w3.heap.size, 0, none⟩) 0 0, .slice (some ⟨w3.heap.size + 1, 0, none⟩) 0 0] 24) = w5 at *
  generalize w3.heap.size + 1 + 1 = gy at *
  go_wp2_with fail
  go_loopw [6] (fun x wr => ∃ (k : Nat) (vS vT : Value), k ≤ N ∧ x = (.int .i64 ((k : Int))) ∧ AlK w3 wr gy vS vT (l1.take k) (l2.take k)) (fun x _ => N - (intOf x).toNat)
  case atStart => exact ⟨0, _, _, Nat.zero_le _, rfl, A0⟩
  case round =>
    obtain ⟨k, vS, vT, hk, rfl, K⟩ := hrel
    by_cases hlt : k < N
    · have hjx : k < (prs (ln n)).length := by rw [HPL.out]; exact hlt
      have hjl : k < (ln n).length := by rw [HNL.out]; exact hlt
      obtain ⟨vs, HV3⟩ := HG.out
      have HW := Lib.hid HV3
      have HV := HV3.own K.below
      clear HV3
      obtain ⟨gl, rfl, _, bl, hcl⟩ := HV.rowAt rfl (by omega)
      have c0 := hcl k hjx
      have hrow := HV.row hjx
      rw [prs_get hjl] at hrow
      obtain ⟨ad3, cap3, e3⟩ := hrow.shape
      rw [e3] at hrow c0
      obtain ⟨g3, rfl, _, b3, hc3⟩ := hrow.cellsZ (by simp)
      have c1 := (hc3 0 (by simp)).1
      have c2 := (hc3 1 (by simp)).1
      simp only [List.length_cons, List.length_nil, List.getD_cons_zero, List.getD_cons_succ, Nat.zero_add, Nat.reduceAdd] at c0 c1 c2
      clear hcl hc3 hrow e3
      obtain ⟨m1, m2, m3, m4, m5⟩ := ln_at HB.out.1 hjl
      have E1 := ledL_at n 0 (-1) 1 0 hjl
      have E2 := ledL_at n 1 1 0 1 hjl
      rw [H1.out] at E1
      rw [H2.out] at E2
      have S1 := take_snoc' (xs := l1) (k := k) (by rw [HLL.out.1]; exact hlt)
      have S2 := take_snoc' (xs := l2) (k := k) (by rw [HLL.out.2]; exact hlt)
      have hp : isP n ((ln n).getD k (0, 0)).1 ((ln n).getD k (0, 0)).2 = true := by
        unfold okP at m5
        simp only [Bool.and_eq_true] at m5
        exact m5.1
      have hn60 := HB.out
      generalize ((ln n).getD k (0, 0)).1 = p at *
      generalize ((ln n).getD k (0, 0)).2 = q at *
      rw [show p * 0 + q * 1 = q by omega, show p * -1 + q * 0 = -p by omega] at E1
      rw [show p * 1 + q * 0 = p by omega, show p * 1 + q * 1 = p + q by omega] at E2
      have HA := Lib.hid (fun v L w hG => by
        have h := l06Number_is n q (-p) hn60.1 hn60.2 (by unfold I64; omega) (by unfold I64; omega) (isP_S hp) (kOf n q (-p)) (kOf_spec hn60.1 (isP_S hp)).1 (kOf_spec hn60.1 (isP_S hp)).2 v L w hG
        rw [← E1] at h
        exact h)
      have HC := Lib.hid (fun v L w hG => by
        have h := l06Number_is n p (p + q) hn60.1 hn60.2 (by unfold I64; omega) (by unfold I64; omega) (isP_T hp) (kOf n p (p + q)) (kOf_spec hn60.1 (isP_T hp)).1 (kOf_spec hn60.1 (isP_T hp)).2 v L w hG
        rw [← E2] at h
        exact h)
      generalize l1.getD k 0 = x1 at *
      generalize l2.getD k 0 = x2 at *
      have hw : IntKind.i64.wrap (p + q) = p + q := IntWalk.i64_in _ (by omega)
      have hw2 : IntKind.i64.wrap (-p) = -p := IntWalk.i64_in _ (by omega)
      have HS1 := Lib.hid S1
      have HS2 := Lib.hid S2
      have tl1 : (l1.take k).length = k := by rw [List.length_take, HLL.out.1]; omega
      have tl2 : (l2.take k).length = k := by rw [List.length_take, HLL.out.2]; omega
      clear E1 E2 S1 S2 m5 hp hjx hjl
      generalize l1.take k = t1 at *
      generalize l2.take k = t2' at *
      go_wp2
      go_region
      have HV := HV.own (own_drew (own_refl wr))
      rw [HPL.out] at HV
      have K := K.drew
      have bl' : gl < wr.drew.heap.size := bl
      have b3' : g3 < wr.drew.heap.size := b3
      generalize wr.drew = wA at *
      clear c0 c1 c2 bl b3
      obtain ⟨aS, cS, e⟩ := K.s.shape
      subst e
      obtain ⟨aT, cT, e⟩ := K.t.shape
      subst e
      rw [tl1, tl2] at K
      obtain ⟨-, s0, s1, -, -⟩ := K.box.two
      go_upto_region 11 with fail
      go_cut [7] (fun pv wx => pv = (.int .i64 p) ∧ ∃ v8, AlK w3 wx gy v8 (.slice aT k cT) (l1.take (k + 1)) t2')
      case first =>
        refine wp_region_held_drew (S := fun _ => True) (by kernel_rfl) trivial (fun hHeld => ?_)
        have KD := K.drew
        have HVD := HV.own (own_drew (own_refl wA))
        have s0D : wA.drew.cell? ⟨gy, 0, none⟩ = some (.slice aS k cS) := s0
        refine wpAnyH_take (i := 0) (oi := _) (v := .pointer (some ⟨gy, 0, none⟩)) rfl (by kernel_rfl) (by kernel_rfl) (by kernel_rfl) (fun _ _ _ h => h) (Or.inl ⟨by rfl, fun w hSw => by go_simp⟩) trivial ?_
        simp only [Act.put, List.setIfInBounds_toArray]
        refine wpAnyH_take (i := 2) (oi := _) (v := (.int .i64 n)) rfl (by kernel_rfl) (by kernel_rfl) (by kernel_rfl) (fun _ _ _ h => h) (Or.inl ⟨by rfl, fun w hSw => by go_simp⟩) trivial ?_
        simp only [Act.put]
        refine wpAnyH_take (i := 3) (oi := _) (v := .slice (some ⟨gl, 0, none⟩) N cap) rfl (by kernel_rfl) (by kernel_rfl) (by kernel_rfl) (fun _ _ _ h => h) (Or.inl ⟨by rfl, fun w hSw => by go_simp⟩) trivial ?_
        simp only [Act.put]
        refine wpAnyH_take (i := 4) (oi := _) (v := (.int .i64 q)) rfl (by kernel_rfl) (by kernel_rfl) (by kernel_rfl) (fun _ _ _ h => h) (Or.inl ⟨by rfl, fun w hSw => by go_simp⟩) trivial ?_
        simp only [Act.put]
        refine wpAnyH_take (i := 5) (oi := _) (v := (.int .i64 p)) rfl (by kernel_rfl) (by kernel_rfl) (by kernel_rfl) (fun _ _ _ h => h) (Or.inl ⟨by rfl, fun w hSw => by go_simp⟩) trivial ?_
        simp only [Act.put]
        refine wpAnyH_take (i := 6) (oi := _) (v := (.int .i64 (-p))) rfl (by kernel_rfl) (by kernel_rfl) (by kernel_rfl) (fun _ _ _ h => h) (Or.inl ⟨by rfl, fun w hSw => by go_simp⟩) trivial ?_
        simp only [Act.put]
        refine wpAnyH_ready (rs := [1, 7]) (by kernel_rfl) (by simp) ?_
        refine AllReadyH.cons (o := _) rfl (fun KK hK => ?_) ?_
        · go_simp
          refine hK.out _ _ trivial (fun _ => ?_)
          clear hK KK
          try simp only [Act.put, List.setIfInBounds_toArray, List.set_cons_zero, List.set_cons_succ]
          refine wpAnyH_ready (rs := [7]) (by kernel_rfl) (by simp) ?_
          refine AllReadyH.cons (o := _) rfl (fun KK hK => ?_) ?_
          · go_simp
            refine (HA.out _ _ _ ⟨vs, HVD⟩).mono ?_
            rintro e w6 ⟨rfl, hb6⟩
            have K6 := KD.own hb6
            have HV6 := HVD.own hb6
            obtain ⟨-, s60, s61, sf0, sf1⟩ := K6.box.two
            clear hb6 s0D
            refine hK.out _ _ trivial (fun _ => ?_)
            clear hK KK
            try simp only [Act.put, List.setIfInBounds_toArray, List.set_cons_zero, List.set_cons_succ]
            refine wpAnyH_ready (rs := [8]) (by kernel_rfl) (by simp) ?_
            refine AllReadyH.cons (o := _) rfl (fun KK hK => ?_) ?_
            · go_simp
              have K7 := K6.own (own_alloc (own_refl w6) (.cells #[(.int .i64 x1)] 2))
              have hc7 : (w6.alloc (.cells #[(.int .i64 x1)] 2)).cell? ⟨w6.heap.size, 0, none⟩ = some (.int .i64 x1) := by simp
              obtain ⟨-, s70, s71, -, -⟩ := K7.box.two
              refine hK.out _ _ trivial (fun _ => ?_)
              clear hK KK
              try simp only [Act.put, List.setIfInBounds_toArray, List.set_cons_zero, List.set_cons_succ]
              generalize w6.alloc (.cells #[(.int .i64 x1)] 2) = w7 at *
              refine wpAnyH_ready (rs := [9]) (by kernel_rfl) (by simp) ?_
              refine AllReadyH.cons (o := _) rfl (fun KK hK => ?_) ?_
              · refine step_app64At rfl (.tmp 41) (.tmp 48) rfl w3.heap.size (.slice aS k cS) t1 x1 rfl K7.s w6.heap.size rfl hc7 (by omega) K7.below.size ?_
                intro v8 w8 G8 hg8 hat8 hb8
                obtain ⟨a8, c8, e8⟩ := G8.shape
                rw [List.length_append, tl1] at e8
                simp only [List.length_cons, List.length_nil, Nat.zero_add] at e8
                subst e8
                have K8 := K7.putS G8 hg8 hat8 hb8 hy
                have B8 := K7.box.keepL hg8 K7.ns
                obtain ⟨-, s80, s81, sg0, sg1⟩ := B8.two
                refine hK.out _ _ trivial (fun _ => ?_)
                clear hK KK
                try simp only [Act.put, List.setIfInBounds_toArray]
                refine wpAnyH_ready (rs := [10]) (by kernel_rfl) (by simp) ?_
                refine AllReadyH.cons (o := _) rfl (fun KK hK => ?_) ?_
                · go_simp
                  refine hK.out _ _ trivial (fun _ => ?_)
                  clear hK KK
                  try simp only [Act.put, List.setIfInBounds_toArray, List.set_cons_zero, List.set_cons_succ]
                  refine wpAnyH_ready (rs := [11]) (by kernel_rfl) (by simp) ?_
                  refine AllReadyH.cons (o := _) rfl (fun KK hK => ?_) ?_
                  · go_simp
                    refine hK.out _ _ trivial (fun _ => ?_)
                    clear hK KK
                    try simp only [Act.put, List.setIfInBounds_toArray, List.set_cons_zero, List.set_cons_succ]
                    refine wpAnyH_done (by kernel_rfl) ?_ _
                    go_wp2_with fail
                    go_meet
                    exact ⟨rfl, _, by rw [← HS1.out]; exact K8⟩
                  exact AllReadyH.nil
                exact AllReadyH.nil
              exact AllReadyH.nil
            exact AllReadyH.nil
          exact AllReadyH.nil
        refine AllReadyH.cons (o := _) rfl (fun KK hK => ?_) ?_
        · go_simp
          refine (HA.out _ _ _ ⟨vs, HVD⟩).mono ?_
          rintro e w6 ⟨rfl, hb6⟩
          have K6 := KD.own hb6
          have HV6 := HVD.own hb6
          obtain ⟨-, s60, s61, sf0, sf1⟩ := K6.box.two
          clear hb6 s0D
          refine hK.out _ _ trivial (fun _ => ?_)
          clear hK KK
          try simp only [Act.put, List.setIfInBounds_toArray, List.set_cons_zero, List.set_cons_succ]
          refine wpAnyH_ready (rs := [1, 8]) (by kernel_rfl) (by simp) ?_
          refine AllReadyH.cons (o := _) rfl (fun KK hK => ?_) ?_
          · go_simp
            refine hK.out _ _ trivial (fun _ => ?_)
            clear hK KK
            try simp only [Act.put, List.setIfInBounds_toArray, List.set_cons_zero, List.set_cons_succ]
            refine wpAnyH_ready (rs := [8]) (by kernel_rfl) (by simp) ?_
            refine AllReadyH.cons (o := _) rfl (fun KK hK => ?_) ?_
            · go_simp
              have K7 := K6.own (own_alloc (own_refl w6) (.cells #[(.int .i64 x1)] 2))
              have hc7 : (w6.alloc (.cells #[(.int .i64 x1)] 2)).cell? ⟨w6.heap.size, 0, none⟩ = some (.int .i64 x1) := by simp
              obtain ⟨-, s70, s71, -, -⟩ := K7.box.two
              refine hK.out _ _ trivial (fun _ => ?_)
              clear hK KK
              try simp only [Act.put, List.setIfInBounds_toArray, List.set_cons_zero, List.set_cons_succ]
              generalize w6.alloc (.cells #[(.int .i64 x1)] 2) = w7 at *
              refine wpAnyH_ready (rs := [9]) (by kernel_rfl) (by simp) ?_
              refine AllReadyH.cons (o := _) rfl (fun KK hK => ?_) ?_
              · refine step_app64At rfl (.tmp 41) (.tmp 48) rfl w3.heap.size (.slice aS k cS) t1 x1 rfl K7.s w6.heap.size rfl hc7 (by omega) K7.below.size ?_
                intro v8 w8 G8 hg8 hat8 hb8
                obtain ⟨a8, c8, e8⟩ := G8.shape
                rw [List.length_append, tl1] at e8
                simp only [List.length_cons, List.length_nil, Nat.zero_add] at e8
                subst e8
                have K8 := K7.putS G8 hg8 hat8 hb8 hy
                have B8 := K7.box.keepL hg8 K7.ns
                obtain ⟨-, s80, s81, sg0, sg1⟩ := B8.two
                refine hK.out _ _ trivial (fun _ => ?_)
                clear hK KK
                try simp only [Act.put, List.setIfInBounds_toArray]
                refine wpAnyH_ready (rs := [10]) (by kernel_rfl) (by simp) ?_
                refine AllReadyH.cons (o := _) rfl (fun KK hK => ?_) ?_
                · go_simp
                  refine hK.out _ _ trivial (fun _ => ?_)
                  clear hK KK
                  try simp only [Act.put, List.setIfInBounds_toArray, List.set_cons_zero, List.set_cons_succ]
                  refine wpAnyH_ready (rs := [11]) (by kernel_rfl) (by simp) ?_
                  refine AllReadyH.cons (o := _) rfl (fun KK hK => ?_) ?_
                  · go_simp
                    refine hK.out _ _ trivial (fun _ => ?_)
                    clear hK KK
                    try simp only [Act.put, List.setIfInBounds_toArray, List.set_cons_zero, List.set_cons_succ]
                    refine wpAnyH_done (by kernel_rfl) ?_ _
                    go_wp2_with fail
                    go_meet
                    exact ⟨rfl, _, by rw [← HS1.out]; exact K8⟩
                  exact AllReadyH.nil
                exact AllReadyH.nil
              exact AllReadyH.nil
            exact AllReadyH.nil
          refine AllReadyH.cons (o := _) rfl (fun KK hK => ?_) ?_
          · go_simp
            have K7 := K6.own (own_alloc (own_refl w6) (.cells #[(.int .i64 x1)] 2))
            have hc7 : (w6.alloc (.cells #[(.int .i64 x1)] 2)).cell? ⟨w6.heap.size, 0, none⟩ = some (.int .i64 x1) := by simp
            obtain ⟨-, s70, s71, -, -⟩ := K7.box.two
            refine hK.out _ _ trivial (fun _ => ?_)
            clear hK KK
            try simp only [Act.put, List.setIfInBounds_toArray, List.set_cons_zero, List.set_cons_succ]
            generalize w6.alloc (.cells #[(.int .i64 x1)] 2) = w7 at *
            refine wpAnyH_ready (rs := [1]) (by kernel_rfl) (by simp) ?_
            refine AllReadyH.cons (o := _) rfl (fun KK hK => ?_) ?_
            · go_simp
              refine hK.out _ _ trivial (fun _ => ?_)
              clear hK KK
              try simp only [Act.put, List.setIfInBounds_toArray, List.set_cons_zero, List.set_cons_succ]
              refine wpAnyH_ready (rs := [9]) (by kernel_rfl) (by simp) ?_
              refine AllReadyH.cons (o := _) rfl (fun KK hK => ?_) ?_
              · refine step_app64At rfl (.tmp 41) (.tmp 48) rfl w3.heap.size (.slice aS k cS) t1 x1 rfl K7.s w6.heap.size rfl hc7 (by omega) K7.below.size ?_
                intro v8 w8 G8 hg8 hat8 hb8
                obtain ⟨a8, c8, e8⟩ := G8.shape
                rw [List.length_append, tl1] at e8
                simp only [List.length_cons, List.length_nil, Nat.zero_add] at e8
                subst e8
                have K8 := K7.putS G8 hg8 hat8 hb8 hy
                have B8 := K7.box.keepL hg8 K7.ns
                obtain ⟨-, s80, s81, sg0, sg1⟩ := B8.two
                refine hK.out _ _ trivial (fun _ => ?_)
                clear hK KK
                try simp only [Act.put, List.setIfInBounds_toArray]
                refine wpAnyH_ready (rs := [10]) (by kernel_rfl) (by simp) ?_
                refine AllReadyH.cons (o := _) rfl (fun KK hK => ?_) ?_
                · go_simp
                  refine hK.out _ _ trivial (fun _ => ?_)
                  clear hK KK
                  try simp only [Act.put, List.setIfInBounds_toArray, List.set_cons_zero, List.set_cons_succ]
                  refine wpAnyH_ready (rs := [11]) (by kernel_rfl) (by simp) ?_
                  refine AllReadyH.cons (o := _) rfl (fun KK hK => ?_) ?_
                  · go_simp
                    refine hK.out _ _ trivial (fun _ => ?_)
                    clear hK KK
                    try simp only [Act.put, List.setIfInBounds_toArray, List.set_cons_zero, List.set_cons_succ]
                    refine wpAnyH_done (by kernel_rfl) ?_ _
                    go_wp2_with fail
                    go_meet
                    exact ⟨rfl, _, by rw [← HS1.out]; exact K8⟩
                  exact AllReadyH.nil
                exact AllReadyH.nil
              exact AllReadyH.nil
            exact AllReadyH.nil
          exact AllReadyH.nil
        exact AllReadyH.nil
      case rest =>
        obtain ⟨rfl, vS8, K⟩ := hcut
        have HV := HW.out.own K.below
        rw [HPL.out] at HV
        obtain ⟨-, s0, s1, -, -⟩ := K.box.two
        go_upto_region 12 with fail
        refine wp_region_held_drew (S := fun _ => True) (by kernel_rfl) trivial (fun hHeld => ?_)
        have KD := K.drew
        have HVD := HV.own (own_drew (own_refl wc))
        have s0D : wc.drew.cell? ⟨gy, 1, none⟩ = some (.slice aT k cT) := s1
        refine wpAnyH_take (i := 0) (oi := _) (v := .pointer (some ⟨gy, 1, none⟩)) rfl (by kernel_rfl) (by kernel_rfl) (by kernel_rfl) (fun _ _ _ h => h) (Or.inl ⟨by rfl, fun w hSw => by go_simp⟩) trivial ?_
        simp only [Act.put, List.setIfInBounds_toArray]
        refine wpAnyH_take (i := 2) (oi := _) (v := (.int .i64 n)) rfl (by kernel_rfl) (by kernel_rfl) (by kernel_rfl) (fun _ _ _ h => h) (Or.inl ⟨by rfl, fun w hSw => by go_simp⟩) trivial ?_
        simp only [Act.put]
        refine wpAnyH_take (i := 3) (oi := _) (v := .slice (some ⟨gl, 0, none⟩) N cap) rfl (by kernel_rfl) (by kernel_rfl) (by kernel_rfl) (fun _ _ _ h => h) (Or.inl ⟨by rfl, fun w hSw => by go_simp⟩) trivial ?_
        simp only [Act.put]
        refine wpAnyH_take (i := 4) (oi := _) (v := (.int .i64 p)) rfl (by kernel_rfl) (by kernel_rfl) (by kernel_rfl) (fun _ _ _ h => h) (Or.inl ⟨by rfl, fun w hSw => by go_simp⟩) trivial ?_
        simp only [Act.put]
        refine wpAnyH_take (i := 5) (oi := _) (v := (.int .i64 p)) rfl (by kernel_rfl) (by kernel_rfl) (by kernel_rfl) (fun _ _ _ h => h) (Or.inl ⟨by rfl, fun w hSw => by go_simp⟩) trivial ?_
        simp only [Act.put]
        refine wpAnyH_take (i := 6) (oi := _) (v := (.int .i64 q)) rfl (by kernel_rfl) (by kernel_rfl) (by kernel_rfl) (fun _ _ _ h => h) (Or.inl ⟨by rfl, fun w hSw => by go_simp⟩) trivial ?_
        simp only [Act.put]
        refine wpAnyH_take (i := 7) (oi := _) (v := (.int .i64 (p + q))) rfl (by kernel_rfl) (by kernel_rfl) (by kernel_rfl) (fun _ _ _ h => h) (Or.inl ⟨by rfl, fun w hSw => by go_simp⟩) trivial ?_
        simp only [Act.put]
        refine wpAnyH_ready (rs := [1, 8]) (by kernel_rfl) (by simp) ?_
        refine AllReadyH.cons (o := _) rfl (fun KK hK => ?_) ?_
        · go_simp
          refine hK.out _ _ trivial (fun _ => ?_)
          clear hK KK
          try simp only [Act.put, List.setIfInBounds_toArray, List.set_cons_zero, List.set_cons_succ]
          refine wpAnyH_ready (rs := [8]) (by kernel_rfl) (by simp) ?_
          refine AllReadyH.cons (o := _) rfl (fun KK hK => ?_) ?_
          · go_simp
            refine (HC.out _ _ _ ⟨vs, HVD⟩).mono ?_
            rintro e w6 ⟨rfl, hb6⟩
            have K6 := KD.own hb6
            have HV6 := HVD.own hb6
            obtain ⟨-, s60, s61, sf0, sf1⟩ := K6.box.two
            clear hb6 s0D
            refine hK.out _ _ trivial (fun _ => ?_)
            clear hK KK
            try simp only [Act.put, List.setIfInBounds_toArray, List.set_cons_zero, List.set_cons_succ]
            refine wpAnyH_ready (rs := [9]) (by kernel_rfl) (by simp) ?_
            refine AllReadyH.cons (o := _) rfl (fun KK hK => ?_) ?_
            · go_simp
              have K7 := K6.own (own_alloc (own_refl w6) (.cells #[(.int .i64 x2)] 2))
              have hc7 : (w6.alloc (.cells #[(.int .i64 x2)] 2)).cell? ⟨w6.heap.size, 0, none⟩ = some (.int .i64 x2) := by simp
              obtain ⟨-, s70, s71, -, -⟩ := K7.box.two
              refine hK.out _ _ trivial (fun _ => ?_)
              clear hK KK
              try simp only [Act.put, List.setIfInBounds_toArray, List.set_cons_zero, List.set_cons_succ]
              generalize w6.alloc (.cells #[(.int .i64 x2)] 2) = w7 at *
              refine wpAnyH_ready (rs := [10]) (by kernel_rfl) (by simp) ?_
              refine AllReadyH.cons (o := _) rfl (fun KK hK => ?_) ?_
              · refine step_app64At rfl (.tmp 52) (.tmp 60) rfl w3.heap.size (.slice aT k cT) t2' x2 rfl K7.t w6.heap.size rfl hc7 (by omega) K7.below.size ?_
                intro v8 w8 G8 hg8 hat8 hb8
                obtain ⟨a8, c8, e8⟩ := G8.shape
                rw [List.length_append, tl2] at e8
                simp only [List.length_cons, List.length_nil, Nat.zero_add] at e8
                subst e8
                have K8 := K7.putT G8 hg8 hat8 hb8 hy
                have B8 := K7.box.keepL hg8 K7.nt
                obtain ⟨-, s80, s81, sg0, sg1⟩ := B8.two
                refine hK.out _ _ trivial (fun _ => ?_)
                clear hK KK
                try simp only [Act.put, List.setIfInBounds_toArray]
                refine wpAnyH_ready (rs := [11]) (by kernel_rfl) (by simp) ?_
                refine AllReadyH.cons (o := _) rfl (fun KK hK => ?_) ?_
                · go_simp
                  refine hK.out _ _ trivial (fun _ => ?_)
                  clear hK KK
                  try simp only [Act.put, List.setIfInBounds_toArray, List.set_cons_zero, List.set_cons_succ]
                  refine wpAnyH_ready (rs := [12]) (by kernel_rfl) (by simp) ?_
                  refine AllReadyH.cons (o := _) rfl (fun KK hK => ?_) ?_
                  · go_simp
                    refine hK.out _ _ trivial (fun _ => ?_)
                    clear hK KK
                    try simp only [Act.put, List.setIfInBounds_toArray, List.set_cons_zero, List.set_cons_succ]
                    refine wpAnyH_done (by kernel_rfl) ?_ _
                    go_wp2_with fail
                    go_roundw
                    case rel => exact ⟨k + 1, _, _, by omega, by go_num, by rw [← HS2.out]; exact K8⟩
                    case measure => simp [intOf]; omega
                  exact AllReadyH.nil
                exact AllReadyH.nil
              exact AllReadyH.nil
            exact AllReadyH.nil
          exact AllReadyH.nil
        refine AllReadyH.cons (o := _) rfl (fun KK hK => ?_) ?_
        · go_simp
          refine (HC.out _ _ _ ⟨vs, HVD⟩).mono ?_
          rintro e w6 ⟨rfl, hb6⟩
          have K6 := KD.own hb6
          have HV6 := HVD.own hb6
          obtain ⟨-, s60, s61, sf0, sf1⟩ := K6.box.two
          clear hb6 s0D
          refine hK.out _ _ trivial (fun _ => ?_)
          clear hK KK
          try simp only [Act.put, List.setIfInBounds_toArray, List.set_cons_zero, List.set_cons_succ]
          refine wpAnyH_ready (rs := [1, 9]) (by kernel_rfl) (by simp) ?_
          refine AllReadyH.cons (o := _) rfl (fun KK hK => ?_) ?_
          · go_simp
            refine hK.out _ _ trivial (fun _ => ?_)
            clear hK KK
            try simp only [Act.put, List.setIfInBounds_toArray, List.set_cons_zero, List.set_cons_succ]
            refine wpAnyH_ready (rs := [9]) (by kernel_rfl) (by simp) ?_
            refine AllReadyH.cons (o := _) rfl (fun KK hK => ?_) ?_
            · go_simp
              have K7 := K6.own (own_alloc (own_refl w6) (.cells #[(.int .i64 x2)] 2))
              have hc7 : (w6.alloc (.cells #[(.int .i64 x2)] 2)).cell? ⟨w6.heap.size, 0, none⟩ = some (.int .i64 x2) := by simp
              obtain ⟨-, s70, s71, -, -⟩ := K7.box.two
              refine hK.out _ _ trivial (fun _ => ?_)
              clear hK KK
              try simp only [Act.put, List.setIfInBounds_toArray, List.set_cons_zero, List.set_cons_succ]
              generalize w6.alloc (.cells #[(.int .i64 x2)] 2) = w7 at *
              refine wpAnyH_ready (rs := [10]) (by kernel_rfl) (by simp) ?_
              refine AllReadyH.cons (o := _) rfl (fun KK hK => ?_) ?_
              · refine step_app64At rfl (.tmp 52) (.tmp 60) rfl w3.heap.size (.slice aT k cT) t2' x2 rfl K7.t w6.heap.size rfl hc7 (by omega) K7.below.size ?_
                intro v8 w8 G8 hg8 hat8 hb8
                obtain ⟨a8, c8, e8⟩ := G8.shape
                rw [List.length_append, tl2] at e8
                simp only [List.length_cons, List.length_nil, Nat.zero_add] at e8
                subst e8
                have K8 := K7.putT G8 hg8 hat8 hb8 hy
                have B8 := K7.box.keepL hg8 K7.nt
                obtain ⟨-, s80, s81, sg0, sg1⟩ := B8.two
                refine hK.out _ _ trivial (fun _ => ?_)
                clear hK KK
                try simp only [Act.put, List.setIfInBounds_toArray]
                refine wpAnyH_ready (rs := [11]) (by kernel_rfl) (by simp) ?_
                refine AllReadyH.cons (o := _) rfl (fun KK hK => ?_) ?_
                · go_simp
                  refine hK.out _ _ trivial (fun _ => ?_)
                  clear hK KK
                  try simp only [Act.put, List.setIfInBounds_toArray, List.set_cons_zero, List.set_cons_succ]
                  refine wpAnyH_ready (rs := [12]) (by kernel_rfl) (by simp) ?_
                  refine AllReadyH.cons (o := _) rfl (fun KK hK => ?_) ?_
                  · go_simp
                    refine hK.out _ _ trivial (fun _ => ?_)
                    clear hK KK
                    try simp only [Act.put, List.setIfInBounds_toArray, List.set_cons_zero, List.set_cons_succ]
                    refine wpAnyH_done (by kernel_rfl) ?_ _
                    go_wp2_with fail
                    go_roundw
                    case rel => exact ⟨k + 1, _, _, by omega, by go_num, by rw [← HS2.out]; exact K8⟩
                    case measure => simp [intOf]; omega
                  exact AllReadyH.nil
                exact AllReadyH.nil
              exact AllReadyH.nil
            exact AllReadyH.nil
          refine AllReadyH.cons (o := _) rfl (fun KK hK => ?_) ?_
          · go_simp
            have K7 := K6.own (own_alloc (own_refl w6) (.cells #[(.int .i64 x2)] 2))
            have hc7 : (w6.alloc (.cells #[(.int .i64 x2)] 2)).cell? ⟨w6.heap.size, 0, none⟩ = some (.int .i64 x2) := by simp
            obtain ⟨-, s70, s71, -, -⟩ := K7.box.two
            refine hK.out _ _ trivial (fun _ => ?_)
            clear hK KK
            try simp only [Act.put, List.setIfInBounds_toArray, List.set_cons_zero, List.set_cons_succ]
            generalize w6.alloc (.cells #[(.int .i64 x2)] 2) = w7 at *
            refine wpAnyH_ready (rs := [1]) (by kernel_rfl) (by simp) ?_
            refine AllReadyH.cons (o := _) rfl (fun KK hK => ?_) ?_
            · go_simp
              refine hK.out _ _ trivial (fun _ => ?_)
              clear hK KK
              try simp only [Act.put, List.setIfInBounds_toArray, List.set_cons_zero, List.set_cons_succ]
              refine wpAnyH_ready (rs := [10]) (by kernel_rfl) (by simp) ?_
              refine AllReadyH.cons (o := _) rfl (fun KK hK => ?_) ?_
              · refine step_app64At rfl (.tmp 52) (.tmp 60) rfl w3.heap.size (.slice aT k cT) t2' x2 rfl K7.t w6.heap.size rfl hc7 (by omega) K7.below.size ?_
                intro v8 w8 G8 hg8 hat8 hb8
                obtain ⟨a8, c8, e8⟩ := G8.shape
                rw [List.length_append, tl2] at e8
                simp only [List.length_cons, List.length_nil, Nat.zero_add] at e8
                subst e8
                have K8 := K7.putT G8 hg8 hat8 hb8 hy
                have B8 := K7.box.keepL hg8 K7.nt
                obtain ⟨-, s80, s81, sg0, sg1⟩ := B8.two
                refine hK.out _ _ trivial (fun _ => ?_)
                clear hK KK
                try simp only [Act.put, List.setIfInBounds_toArray]
                refine wpAnyH_ready (rs := [11]) (by kernel_rfl) (by simp) ?_
                refine AllReadyH.cons (o := _) rfl (fun KK hK => ?_) ?_
                · go_simp
                  refine hK.out _ _ trivial (fun _ => ?_)
                  clear hK KK
                  try simp only [Act.put, List.setIfInBounds_toArray, List.set_cons_zero, List.set_cons_succ]
                  refine wpAnyH_ready (rs := [12]) (by kernel_rfl) (by simp) ?_
                  refine AllReadyH.cons (o := _) rfl (fun KK hK => ?_) ?_
                  · go_simp
                    refine hK.out _ _ trivial (fun _ => ?_)
                    clear hK KK
                    try simp only [Act.put, List.setIfInBounds_toArray, List.set_cons_zero, List.set_cons_succ]
                    refine wpAnyH_done (by kernel_rfl) ?_ _
                    go_wp2_with fail
                    go_roundw
                    case rel => exact ⟨k + 1, _, _, by omega, by go_num, by rw [← HS2.out]; exact K8⟩
                    case measure => simp [intOf]; omega
                  exact AllReadyH.nil
                exact AllReadyH.nil
              exact AllReadyH.nil
            exact AllReadyH.nil
          exact AllReadyH.nil
        exact AllReadyH.nil
    · obtain rfl : k = N := by omega
      have e1 : l1.take k = l1 := List.take_of_length_le (by rw [HLL.out.1]; exact Nat.le_refl _)
      have e2 : l2.take k = l2 := List.take_of_length_le (by rw [HLL.out.2]; exact Nat.le_refl _)
      rw [e1, e2] at K
      clear e1 e2 hlt
      obtain ⟨aS, cS, e⟩ := K.s.shape
      subst e
      obtain ⟨aT, cT, e⟩ := K.t.shape
      subst e
      obtain ⟨-, s0, s1, -, -⟩ := K.box.two
      have BR := B.low K.below hgr
      obtain ⟨-, d0, d1, f0, f1⟩ := BR.two
      have C9 := BR.put2 (.slice aS l1.length cS) (.slice aT l2.length cT)
      obtain ⟨-, x0, x1, -, -⟩ := C9.two
      have T9 := own_setCell (own_setCell (own_trans T K.below) (p := ⟨w.heap.size, 0, none⟩) (by simp) (.slice aS l1.length cS)) (p := ⟨w.heap.size, 1, none⟩) (by simp) (.slice aT l2.length cT)
      have GS3 := (K.s.set (p := ⟨w.heap.size, 0, none⟩) hgr (.slice aS l1.length cS)).set (p := ⟨w.heap.size, 1, none⟩) hgr (.slice aT l2.length cT)
      have GT3 := (K.t.set (p := ⟨w.heap.size, 0, none⟩) hgr (.slice aS l1.length cS)).set (p := ⟨w.heap.size, 1, none⟩) hgr (.slice aT l2.length cT)
      have hap := K.apart
      go_wp2
      exact bodyPost_ret (v := .tuple #[.agg #[.slice aS l1.length cS, .slice aT l2.length cT], (.int .i64 0)]) (by simp [results, Tryd.results8, go_sem, x0, x1]) rfl ⟨_, rfl, ⟨_, _, rfl, GS3.weakL hz3, GT3.weakL hz3, hap⟩, T9⟩
end Go.Proofs.YtdcomnnpnhinfaaDoor
