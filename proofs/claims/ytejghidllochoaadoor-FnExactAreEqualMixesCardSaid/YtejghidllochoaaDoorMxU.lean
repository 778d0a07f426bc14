/- Slices of slices, each of which owns its memory; and how slices of slices read. -/
import Derived.Test.YtejghidllochoaaDoorMS
import Derived.Maps.AppendAt
import Derived.Test.YtejghidllochoaaDoorFlt
import Derived.Test.YtejghidllochoaaDoorCo
import Derived.Test.YtejghidllochoaaDoorLvC
import Derived.Test.YtejghidllochoaaDoorRlI
namespace Go.Proofs.YtejghidllochoaaDoor
open Go.ChangeShapes Go.WideShapes Go.ChangeAt Go.RowKit

/-- The slice v owns its block, whose cells are the rows vs; each row owns its memory and reads as its list. -/
def GrW (w : World) (L : Nat) (v : Value) (vs : List Value) (xss : List (List Int)) : Prop :=
  w.ownsRow L 31 1 v vs.length vs ∧ vs.length = xss.length ∧ ∀ i, i < xss.length → Gr w L (vs.getD i rowZ) (xss.getD i [])
theorem GrW.own {w w' : World} {L : Nat} {v : Value} {vs : List Value} {xss : List (List Int)} (h : GrW w L v vs xss) (hb : Below w.heap.size w w') : GrW w' L v vs xss :=
  ⟨kept_none h.1 (grow_below hb), h.2.1, fun i hi => (h.2.2 i hi).own hb⟩
theorem GrW.lit {w : World} {L g : Nat} (hg : w.heap.size = g) (hL : L ≤ g) : GrW (w.alloc (.cells #[] 31)) L (.slice (some ⟨g, 0, none⟩) 0 0) [] [] := by
  subst hg
  exact ⟨World.ownsRow_lit w #[] 0 hL (by unfold maxLen; omega) rfl, rfl, fun i h => by simp at h⟩
theorem GrW.shape {w : World} {L : Nat} {v : Value} {vs : List Value} {xss : List (List Int)} (h : GrW w L v vs xss) : ∃ ad cap, v = .slice ad xss.length cap := by
  obtain ⟨⟨_, h1⟩, h2, _⟩ := h
  rcases h1 with ⟨rfl, h0⟩ | ⟨g, cap, cur, rfl, _⟩
  · exact ⟨none, 0, by rw [← h2, h0]⟩
  · exact ⟨_, cap, by rw [← h2]⟩
theorem GrW.other {w w' : World} {L L' n2 : Nat} {v v2 : Value} {vs us : List Value} {xss : List (List Int)} (h : GrW w L v vs xss) (h2 : w.ownsRow L' 31 1 v2 n2 us)
    (hne : ∀ g, v.ownBlock = some g → v2.ownBlock ≠ some g) (hg : w.grownBy w' v2.ownBlock) : GrW w' L v vs xss := by
  refine ⟨World.ownsRow.kept h.1 hg ?_, h.2.1, fun i hi => kept_apart (Ne.symm types_ss) (h.2.2 i hi) h2 hg⟩
  rcases e : v.ownBlock with _ | k
  · exact .inl rfl
  · exact .inr fun he => hne k e he.symm
theorem GrW.snoc {w w' : World} {L : Nat} {v v' r : Value} {vs : List Value} {xss : List (List Int)} {xs : List Int} (h : GrW w L v vs xss) (hr : Gr w L r xs) (hown : w'.ownsRow L 31 1 v' (vs.length + 1) (vs ++ [r]))
    (hg : w.grownBy w' v.ownBlock) : GrW w' L v' (vs ++ [r]) (xss ++ [xs]) := by
  obtain ⟨h1, h2, h3⟩ := h
  refine ⟨by rw [List.length_append]; exact hown, by simp [h2], fun i hi => ?_⟩
  simp only [List.length_append, List.length_cons, List.length_nil] at hi
  by_cases e : i < xss.length
  · have e1 : (vs ++ [r]).getD i rowZ = vs.getD i rowZ := by simp [List.getD, List.getElem?_append_left (show i < vs.length by omega)]
    have e2 : (xss ++ [xs]).getD i [] = xss.getD i [] := by simp [List.getD, List.getElem?_append_left e]
    rw [e1, e2]
    exact kept_apart (Ne.symm types_ss) (h3 i e) h1 hg
  · obtain rfl : i = xss.length := by omega
    have e1 : (vs ++ [r]).getD xss.length rowZ = r := by simp [List.getD, ← h2]
    have e2 : (xss ++ [xs]).getD xss.length [] = xs := by simp [List.getD]
    rw [e1, e2]
    exact kept_apart (Ne.symm types_ss) hr h1 hg
theorem GrW.join {w w' : World} {L : Nat} {v v' v2 : Value} {vs us : List Value} {xss yss : List (List Int)} (h : GrW w L v vs xss) (h2 : GrW w L v2 us yss) (hown : w'.ownsRow L 31 1 v' (vs.length + us.length) (vs ++ us))
    (hg : w.grownBy w' v.ownBlock) : GrW w' L v' (vs ++ us) (xss ++ yss) := by
  obtain ⟨h1, l1, h3⟩ := h
  obtain ⟨_, l2, h4⟩ := h2
  refine ⟨by rw [List.length_append]; exact hown, by simp [l1, l2], fun i hi => ?_⟩
  rw [List.length_append] at hi
  by_cases e : i < xss.length
  · have e1 : (vs ++ us).getD i rowZ = vs.getD i rowZ := by simp [List.getD, List.getElem?_append_left (show i < vs.length by omega)]
    have e2 : (xss ++ yss).getD i [] = xss.getD i [] := by simp [List.getD, List.getElem?_append_left e]
    rw [e1, e2]
    exact kept_apart (Ne.symm types_ss) (h3 i e) h1 hg
  · have e1 : (vs ++ us).getD i rowZ = us.getD (i - xss.length) rowZ := by simp [List.getD, List.getElem?_append_right (show vs.length ≤ i by omega), l1]
    have e2 : (xss ++ yss).getD i [] = yss.getD (i - xss.length) [] := by simp [List.getD, List.getElem?_append_right (show xss.length ≤ i by omega)]
    rw [e1, e2]
    exact kept_apart (Ne.symm types_ss) (h4 _ (by omega)) h1 hg
/-- 'rows = append(rows, more...)': the rows as values; the block is the old one or the next one. -/
theorem appRowAt {ops : Array Oper} {rest : List Oper} {o : Oper} {a : Act} {Q : Exit → Act → World → Prop} (hgd : o.guard = none) (s x : Operand)
    (ho : o.op = .call { callee := .builtin .append, args := #[s, x], argTypes := #[22, 22] })
    (L : Nat) (w : World) (v : Value) (n : Nat) (vs us : List Value) (hs : a.eval s = v) (hown : w.ownsRow L 31 1 v n vs)
    (m c g : Nat) (hx : a.eval x = .slice (some ⟨g, 0, none⟩) m c) (hm : us.length = m) (hc : ∀ j u, us[j]? = some u → w.cell? ⟨g, j, none⟩ = some u) (h1c : ∀ u ∈ us, u.oneCell' = true) (hlen : n + m ≤ 1000000) (hL : L ≤ w.heap.size)
    (h : ∀ v' w', w'.ownsRow L 31 1 v' (n + m) (vs ++ us) → w.grownBy w' v.ownBlock → (v'.ownBlock = v.ownBlock ∨ v'.ownBlock = some w.heap.size) → Below L w w' → wpList Tryd.prog ops Q rest (a.put o.dst v') w') : wpList Tryd.prog ops Q (o :: rest) a w := by
  obtain ⟨i0, hi, hz0, hz1, hz2⟩ := info_parts info_row
  refine wpList_append_own_at _ hgd s x 22 ho L 31 i0 (.slice none 0 0) 1 24 Tryd.underlying22 hi hz0 hz1 hz2 rfl (by decide) v n _ hs hown ⟨g, 0, none⟩ m c us hx (by omega) ?_ h1c ?_ ?_ hL ?_
  · intro j u hj
    rw [add0]
    exact hc j u hj
  · unfold maxLen; omega
  · omega
  · intro v' w' hown' hgrow _ hat
    exact h v' w' hown' hgrow hat ((Below.refl L w).grown hgrow hL (fun j hj => (hown.lt j hj).1))
theorem GrW.cells {w : World} {L n cap : Nat} {ad : Option Addr} {vs : List Value} {xss : List (List Int)} (h : GrW w L (.slice ad n cap) vs xss) (hn : 0 < n) : ∃ g, ad = some ⟨g, 0, none⟩ ∧ g < w.heap.size ∧ ∀ j u, vs[j]? = some u → w.cell? ⟨g, j, none⟩ = some u := by
  have hs := h.1
  obtain ⟨⟨_, ⟨e, h0⟩ | ⟨g, cap', cur, e, hg, hh, _⟩⟩, _⟩ := h
  · injection e with e1 e2 e3
    omega
  · injection e with e1 e2 e3
    refine ⟨g, e1, (Array.getElem?_eq_some_iff.1 hh).1, fun j u hj => ?_⟩
    have := hs.cells (g := g) (by rw [e1]; rfl) j u hj
    rwa [add0] at this
theorem GrW.oneC {w : World} {L : Nat} {v : Value} {vs : List Value} {xss : List (List Int)} (h : GrW w L v vs xss) : ∀ u ∈ vs, u.oneCell' = true := fun u hu => by
  obtain ⟨i, hi, rfl⟩ := List.getElem_of_mem hu
  have h2 := h.2.2 i (by rw [← h.2.1]; exact hi)
  have e : vs.getD i rowZ = vs[i] := by simp [List.getD, List.getElem?_eq_getElem hi]
  rw [e] at h2
  obtain ⟨ad, cap, e2⟩ := h2.shape
  rw [e2]
  rfl
end Go.Proofs.YtejghidllochoaaDoor
/- The model's RelationsOf: contract. -/
namespace Go.Proofs.YtejghidllochoaaDoor
open Go.ChangeShapes Go.WideShapes Go.ChangeAt Go.RowKit

theorem bmp_putZ {w : World} {L g cap N k : Nat} {xs : List Int} {y : Int} (h : Gr w L (.slice (some ⟨g, 0, none⟩) N cap) xs) (hl : xs.length = N) (hk : k < N) (hy : xs.getD k 0 + 1 = y) :
    Gr (w.setCell ⟨g, k, none⟩ (.int .i64 y)) L (.slice (some ⟨g, 0, none⟩) N cap) (bmp xs k) := by
  have := Gr.putZ (k := k) (y := y) (show Gr w L (.slice (some ⟨g, 0, none⟩) xs.length cap) xs by rw [hl]; exact h) (by omega)
  rw [hl] at this
  unfold bmp
  rw [hy]
  exact this
theorem Gr.far {w : World} {L B n cap : Nat} {xs : List Int} (h : Gr w L (.slice (some ⟨B, 0, none⟩) n cap) xs) {p : Addr} (hp : B ≠ p.block) (u : Value) : Gr (w.setCell p u) L (.slice (some ⟨B, 0, none⟩) n cap) xs :=
  World.ownsRow.kept h (setRow w p u) (.inr fun e => hp (by simpa [Value.ownBlock] using e))
theorem Gr.at {w : World} {L B n cap k : Nat} {xs : List Int} (h : Gr w L (.slice (some ⟨B, 0, none⟩) n cap) xs) (hk : k < n) : w.cell? ⟨B, k, none⟩ = some (.int .i64 (xs.getD k 0)) ∧ w.frozen? ⟨B, k, none⟩ = false := by
  obtain ⟨g, e, _, _, hc⟩ := h.cellsZ (by omega)
  injection e with e
  injection e with e
  subst e
  exact hc k hk
theorem zer_le (N : Nat) : ∀ q, 0 ≤ (zer N).getD q 0 ∧ (zer N).getD q 0 ≤ 0 := fun q => by rw [zer_get]; omega
theorem bmp_bd {l : List Int} {B : Int} (h : ∀ q, 0 ≤ l.getD q 0 ∧ l.getD q 0 ≤ B) (i : Nat) : ∀ q, 0 ≤ (bmp l i).getD q 0 ∧ (bmp l i).getD q 0 ≤ B + 1 := fun q => by
  have hq := h q
  by_cases hi : i < l.length
  · rw [bmp_get hi]
    split <;> omega
  · have e : bmp l i = l := by unfold bmp; exact List.set_eq_of_length_le (by omega)
    rw [e]
    omega
theorem cell1 (w : World) (v : Value) (t : TypeId) : ∀ j u, [v][j]? = some u → (w.alloc (.cells #[v] t)).cell? ⟨w.heap.size, j, none⟩ = some u := fun j u hj => (Box.new w [v] t).2 j u hj |>.1
theorem one1 {a : Option Addr} {n c : Nat} : ∀ u ∈ [Value.slice a n c], u.oneCell' = true := fun u hu => by
  simp at hu
  subst hu
  rfl
def relSs (n : Int) (N k : Nat) : List (List Int) := (List.range k).map (relS n N)
def relUs (n : Int) (N k : Nat) : List (List Int) := (List.range k).map (relU n N)
theorem relSs_len (n : Int) (N k : Nat) : (relSs n N k).length = k := by simp [relSs]
theorem relUs_len (n : Int) (N k : Nat) : (relUs n N k).length = k := by simp [relUs]
theorem relSs_snoc (n : Int) (N k : Nat) : relSs n N (k + 1) = relSs n N k ++ [relS n N k] := by simp [relSs, List.range_succ]
theorem relUs_snoc (n : Int) (N k : Nat) : relUs n N (k + 1) = relUs n N k ++ [relU n N k] := by simp [relUs, List.range_succ]
theorem rels_at (n : Int) (N j : Nat) (hj : j < N + N) : (relSs n N N ++ relUs n N N).getD j [] = rel n N j := by
  unfold rel
  by_cases h : j < N
  · rw [if_pos h]
    rw [List.getD, List.getElem?_append_left (show j < (relSs n N N).length by rw [relSs_len]; exact h)]
    simp [relSs, h]
  · rw [if_neg h]
    rw [List.getD, List.getElem?_append_right (show (relSs n N N).length ≤ j by rw [relSs_len]; omega), relSs_len]
    simp [relUs, show j - N < N by omega]
theorem relS_eq (n : Int) (N k : Nat) : relS n N k = bmp (bmp (zer N) k) (kS n k) := by simp [relS, addS]
theorem relU_eq (n : Int) (N k : Nat) : relU n N k = bmp (bmp (bmp (zer N) k) (kU n k)) (kV n k) := by simp [relU, addS]

set_option maxRecDepth 100000 in
set_option maxHeartbeats 4000000 in
theorem l08Relations_is (n : Int) (h1 : 1 ≤ n) (h2 : n ≤ 60) (N : Nat) (hN : (ln n).length = N) (hN72 : N ≤ 72) (hN0 : 0 < N) (v : Value) (L : Nat) (w : World) (hG : GrSS w L v (prs (ln n))) :
    Calls Tryd.prog 33 #[(.int .i64 n), v] w fun e w' => ∃ v' vs, e = .returned v' ∧ GrW w' w.heap.size v' vs (relSs n N N ++ relUs n N N) ∧ Below w.heap.size w w' := by
  have hpl : (prs (ln n)).length = N := by simp [prs, hN]
  obtain ⟨ad, cap, hv⟩ := hG.shape
  subst hv
  rw [hpl] at hG ⊢
  have HG := Lib.hid hG
  have HN := Lib.hid (And.intro hN hpl)
  have HB := Lib.hid (And.intro h1 h2)
  have hmk := made64 N (by omega)
  clear hG hN hpl
  go_enter Tryd.func33, Tryd.ntmps33
  go_wp2
  have A0 : GrW ((w.alloc (.cells #[] 31)).alloc (.cells #[] 31)) w.heap.size (.slice (some ⟨w.heap.size, 0, none⟩) 0 0) [] [] := GrW.own (GrW.lit rfl (Nat.le_refl _)) (own_alloc (own_refl _) _)
  have A1 : GrW ((w.alloc (.cells #[] 31)).alloc (.cells #[] 31)) w.heap.size (.slice (some ⟨w.heap.size + 1, 0, none⟩) 0 0) [] [] := GrW.lit (by simp) (by omega)
  go_loopw [5, 6, 7] (fun x y i wr => ∃ (k : Nat) (vs us : List Value), k ≤ N ∧ i = (.int .i64 ((k : Int))) ∧ GrW wr w.heap.size x vs (relSs n N k) ∧ GrW wr w.heap.size y us (relUs n N k) ∧ (∀ g, x.ownBlock = some g → y.ownBlock ≠ some g) ∧ Below w.heap.size w wr) (fun _ _ i _ => N - (intOf i).toNat)
  case atStart => exact ⟨0, [], [], Nat.zero_le _, rfl, A0, A1, by simp [Value.ownBlock], by repeat (first | with_reducible exact own_refl _ | with_reducible assumption | with_reducible apply own_alloc | with_reducible apply own_drewN | with_reducible apply own_drew | ((with_reducible refine own_setCell ?_ ?_ _); rotate_left; focus (first | (simp; done) | (simp; omega))) | (with_reducible (refine own_trans ?_ (by assumption))))⟩
  case round =>
    obtain ⟨k, vs, us, hk, rfl, hx, hy, hxy, T⟩ := hrel
    by_cases hlt : k < N
    · have HV := HG.out.own T
      obtain ⟨vs0, HV⟩ := HV
      have hjx : k < (prs (ln n)).length := by rw [HN.out.2]; exact hlt
      have hjl : k < (ln n).length := by rw [HN.out.1]; exact hlt
      obtain ⟨gl, rfl, _, bl, hcl⟩ := HV.rowAt rfl (by omega)
      have c0 := hcl k hjx
      have hrow := HV.row hjx
      rw [prs_getX hjl] at hrow
      obtain ⟨ad3, cap3, e3⟩ := hrow.shape
      rw [e3] at hrow c0
      obtain ⟨g3, rfl, _, b3, hc3⟩ := hrow.cellsZ (by simp)
      have c1 := (hc3 0 (by simp)).1
      have c2 := (hc3 1 (by simp)).1
      simp only [List.length_cons, List.length_nil, List.getD_cons_zero, List.getD_cons_succ, Nat.zero_add, Nat.reduceAdd] at c0 c1 c2
      clear hcl hc3 hrow e3
      obtain ⟨m1, m2, m3, m4, _⟩ := ln_at HB.out.1 hjl
      obtain ⟨p1, p2⟩ := kOf_spec HB.out.1 (isP_S (ln_isP HB.out.1 hjl))
      obtain ⟨q1, q2⟩ := kOf_spec HB.out.1 (isP_U (ln_isP HB.out.1 hjl))
      obtain ⟨r1, r2⟩ := kOf_spec HB.out.1 (isP_neg (ln_isP HB.out.1 hjl))
      have hp1 := isP_S (ln_isP HB.out.1 hjl)
      have hp2 := isP_U (ln_isP HB.out.1 hjl)
      have hp3 := isP_neg (ln_isP HB.out.1 hjl)
      have HRS := Lib.hid (relS_eq n N k)
      have HRU := Lib.hid (relU_eq n N k)
      unfold kS at HRS
      unfold kU kV at HRU
      rw [HN.out.1] at p1 q1 r1
      generalize ((ln n).getD k (0, 0)).1 = p at *
      generalize ((ln n).getD k (0, 0)).2 = q at *
      have hn60 := HB.out
      have HA1 := Lib.hid (fun v L w hG => l06Number_is n q (-p) HB.out.1 HB.out.2 (by unfold I64; omega) (by unfold I64; omega) hp1 _ (by rw [HN.out.1]; exact p1) p2 v L w hG)
      have HA2 := Lib.hid (fun v L w hG => l06Number_is n (p + q) (-p) HB.out.1 HB.out.2 (by unfold I64; omega) (by unfold I64; omega) hp2 _ (by rw [HN.out.1]; exact q1) q2 v L w hG)
      have HA3 := Lib.hid (fun v L w hG => l06Number_is n q (-p - q) HB.out.1 HB.out.2 (by unfold I64; omega) (by unfold I64; omega) hp3 _ (by rw [HN.out.1]; exact r1) r2 v L w hG)
      have hw1 : IntKind.i64.wrap (p + q) = p + q := IntWalk.i64_in _ (by omega)
      have hw2 : IntKind.i64.wrap (-p) = -p := IntWalk.i64_in _ (by omega)
      have hw3 : IntKind.i64.wrap (-p - q) = -p - q := IntWalk.i64_in _ (by omega)
      generalize kOf n q (-p) = a at *
      generalize kOf n (p + q) (-p) = b at *
      generalize kOf n q (-p - q) = c at *
      obtain ⟨adx, cpx, hvx⟩ := hx.shape
      obtain ⟨ady, cpy, hvy⟩ := hy.shape
      rw [relSs_len] at hvx
      rw [relUs_len] at hvy
      subst hvx hvy
      have HX := Lib.hid hx
      have HY := Lib.hid hy
      have HXY := Lib.hid hxy
      clear p2 q2 r2 hp1 hp2 hp3 hjx hjl hx hy hxy
      go_upto_region 6 with fail
      go_quiet (fail)
      have Tn : Below w.heap.size w (wr.drewN nq) := below_drewN' T nq
      have HXn : Hid (GrW (wr.drewN nq) w.heap.size (.slice adx k cpx) vs (relSs n N k)) := Lib.hid (HX.out.own (below_drewN' (own_refl wr) nq))
      have HYn : Hid (GrW (wr.drewN nq) w.heap.size (.slice ady k cpy) us (relUs n N k)) := Lib.hid (HY.out.own (below_drewN' (own_refl wr) nq))
      have hzn := Tn.size
      clear HX HY T c0 c1 c2
      generalize wr.drewN nq = wo at *
      go_upto_region 7 with fail
      go_region
      · have T0 : Below wo.heap.size wo ((wo.alloc (.cells (Array.replicate N (.int .i64 0)) 2)).alloc (.cells (Array.replicate N (.int .i64 0)) 2)).drew := own_drew (own_alloc (own_alloc (own_refl _) _) _)
        have GS : Gr ((wo.alloc (.cells (Array.replicate N (.int .i64 0)) 2)).alloc (.cells (Array.replicate N (.int .i64 0)) 2)).drew wo.heap.size (.slice (some ⟨wo.heap.size, 0, none⟩) N N) (zer N) := Gr.drew (Gr.alloc (Gr.zer rfl (Nat.le_refl _) N (by omega)) _)
        have GT : Gr ((wo.alloc (.cells (Array.replicate N (.int .i64 0)) 2)).alloc (.cells (Array.replicate N (.int .i64 0)) 2)).drew wo.heap.size (.slice (some ⟨wo.heap.size + 1, 0, none⟩) N N) (zer N) := Gr.drew (Gr.zer (by simp) (by omega) N (by omega))
        generalize ((wo.alloc (.cells (Array.replicate N (.int .i64 0)) 2)).alloc (.cells (Array.replicate N (.int .i64 0)) 2)).drew = W0 at *
        obtain ⟨A, hA⟩ : ∃ A, wo.heap.size = A := ⟨_, rfl⟩
        obtain ⟨B, hB⟩ : ∃ B, wo.heap.size + 1 = B := ⟨_, rfl⟩
        have hAB : A ≠ B := by omega
        have hAl : wo.heap.size ≤ A := by omega
        have hBl : wo.heap.size ≤ B := by omega
        have GA : Gr W0 wo.heap.size (.slice (some ⟨A, 0, none⟩) N N) (zer N) := by rw [← hA]; exact GS
        have GB : Gr W0 wo.heap.size (.slice (some ⟨B, 0, none⟩) N N) (zer N) := by rw [← hB]; exact GT
        rw [hB, hA]
        clear hA hB GS GT
        obtain ⟨cA, fA⟩ := GA.at hlt
        rw [zer_get] at cA
        have G1 := bmp_putZ GA (by simp [zer]) hlt (y := 1) (by rw [zer_get]; rfl)
        have H1 := GB.far (p := ⟨A, k, none⟩) (Ne.symm hAB) (.int .i64 1)
        have T1 : Below wo.heap.size wo (W0.setCell ⟨A, k, none⟩ (.int .i64 1)) := own_setCell T0 hAl _
        clear GA GB
        go_wp2_with fail
        generalize W0.setCell ⟨A, k, none⟩ (.int .i64 1) = W1 at *
        refine (HA1.out _ _ _ (HG.out.own (own_trans Tn T1))).mono ?_
        rintro e W2 ⟨rfl, hb2⟩
        have T2 := own_trans T1 hb2
        have G2 := G1.own hb2
        have H2 := H1.own hb2
        obtain ⟨c2, f2⟩ := G2.at p1
        have x2 := bmp_bd (zer_le N) k a
        obtain ⟨x, hx⟩ : ∃ x, (bmp (zer N) k).getD a 0 = x := ⟨_, rfl⟩
        rw [hx] at c2 x2
        obtain ⟨_, _⟩ := x2
        have hwx : IntKind.i64.wrap (x + 1) = x + 1 := IntWalk.i64_in _ (by omega)
        have G3 := bmp_putZ G2 (by simp [bmp_len, zer]) p1 (y := x + 1) (by rw [hx])
        have H3 := H2.far (p := ⟨A, a, none⟩) (Ne.symm hAB) (.int .i64 (x + 1))
        have T3 : Below wo.heap.size wo (W2.setCell ⟨A, a, none⟩ (.int .i64 (x + 1))) := own_setCell T2 hAl _
        rw [← HRS.out] at G3
        clear T1 hb2 G1 H1 cA fA T0 G2 H2
        go_upto_region 9 with fail
        clear c2 f2 hwx hx
        generalize W2.setCell ⟨A, a, none⟩ (.int .i64 (x + 1)) = W3 at *
        obtain ⟨c3, f3⟩ := H3.at hlt
        rw [zer_get] at c3
        have H4 := bmp_putZ H3 (by simp [zer]) hlt (y := 1) (by rw [zer_get]; rfl)
        have G4 := G3.far (p := ⟨B, k, none⟩) hAB (.int .i64 1)
        have T4 : Below wo.heap.size wo (W3.setCell ⟨B, k, none⟩ (.int .i64 1)) := own_setCell T3 hBl _
        clear G3 H3
        go_wp2_with fail
        generalize W3.setCell ⟨B, k, none⟩ (.int .i64 1) = W4 at *
        refine (HA2.out _ _ _ (HG.out.own (own_trans Tn T4))).mono ?_
        rintro e W5 ⟨rfl, hb5⟩
        have T5 := own_trans T4 hb5
        have G5 := G4.own hb5
        have H5 := H4.own hb5
        obtain ⟨c5, f5⟩ := H5.at q1
        have x5 := bmp_bd (zer_le N) k b
        obtain ⟨y, hy⟩ : ∃ y, (bmp (zer N) k).getD b 0 = y := ⟨_, rfl⟩
        rw [hy] at c5 x5
        obtain ⟨_, _⟩ := x5
        have hwy : IntKind.i64.wrap (y + 1) = y + 1 := IntWalk.i64_in _ (by omega)
        have H6 := bmp_putZ H5 (by simp [bmp_len, zer]) q1 (y := y + 1) (by rw [hy])
        have G6 := G5.far (p := ⟨B, b, none⟩) hAB (.int .i64 (y + 1))
        have T6 : Below wo.heap.size wo (W5.setCell ⟨B, b, none⟩ (.int .i64 (y + 1))) := own_setCell T5 hBl _
        clear T3 T4 hb5 G4 H4 c3 f3 G5 H5
        go_upto_region 11 with fail
        clear c5 f5 hwy hy
        generalize W5.setCell ⟨B, b, none⟩ (.int .i64 (y + 1)) = W6 at *
        go_wp2_with fail
        refine (HA3.out _ _ _ (HG.out.own (own_trans Tn T6))).mono ?_
        rintro e W7 ⟨rfl, hb7⟩
        have T7 := own_trans T6 hb7
        have G7 := G6.own hb7
        have H7 := H6.own hb7
        obtain ⟨c7, f7⟩ := H7.at r1
        have x7 := bmp_bd (bmp_bd (zer_le N) k) b c
        obtain ⟨z, hz⟩ : ∃ z, (bmp (bmp (zer N) k) b).getD c 0 = z := ⟨_, rfl⟩
        rw [hz] at c7 x7
        obtain ⟨_, _⟩ := x7
        have hwz : IntKind.i64.wrap (z + 1) = z + 1 := IntWalk.i64_in _ (by omega)
        have H8 := bmp_putZ H7 (by simp [bmp_len, zer]) r1 (y := z + 1) (by rw [hz])
        have G8 := G7.far (p := ⟨B, c, none⟩) hAB (.int .i64 (z + 1))
        have T8 : Below wo.heap.size wo (W7.setCell ⟨B, c, none⟩ (.int .i64 (z + 1))) := own_setCell T7 hBl _
        rw [← HRU.out] at H8
        clear T6 hb7 G6 H6 G7 H7
        go_upto_region 12 with fail
        clear c7 f7 hwz hz
        generalize W7.setCell ⟨B, c, none⟩ (.int .i64 (z + 1)) = W8 at *
        have X8 := HXn.out.own T8
        have Y8 := HYn.out.own T8
        have hz8 := T8.size
        have hvl : vs.length = k := by rw [X8.2.1, relSs_len]
        have hul : us.length = k := by rw [Y8.2.1, relUs_len]
        have X8a := X8.own (own_alloc (own_refl W8) (.cells #[.slice (some ⟨A, 0, none⟩) N N] 31))
        have Y8a := Y8.own (own_alloc (own_refl W8) (.cells #[.slice (some ⟨A, 0, none⟩) N N] 31))
        have H8a := H8.alloc (.cells #[.slice (some ⟨A, 0, none⟩) N N] 31)
        have G8a := ownsRow_weakZ (G8.alloc (.cells #[.slice (some ⟨A, 0, none⟩) N N] 31)) hzn
        have X8r := X8a.1
        rw [hvl] at X8r
        go_upto_region 13 with (at_builtin; refine appRowAt (L := w.heap.size) (v := .slice adx k cpx) (n := k) (vs := vs) (us := [.slice (some ⟨A, 0, none⟩) N N]) (m := 1) (c := 1) (g := W8.heap.size) (by rfl) _ _ (by rfl) _ (by rfl) X8r (by rfl) rfl (cell1 _ _ _) one1 (by omega) (by simp; omega) ?_; intro v9 w9 hR9 hg9 hat9 hb9)
        have X9 : GrW w9 w.heap.size v9 (vs ++ [.slice (some ⟨A, 0, none⟩) N N]) (relSs n N (k + 1)) := by
          rw [relSs_snoc]
          exact X8a.snoc G8a (by rw [hvl]; exact hR9) hg9
        have Y9 := Y8a.other X8r (fun g h1 h2 => HXY.out g h2 h1) hg9
        have H9 := kept_apart (Ne.symm types_ss) H8a X8r hg9
        have hne9 : ∀ g, v9.ownBlock = some g → (Value.slice ady k cpy).ownBlock ≠ some g := fun g h1 h2 => by
          have h3 := (Y8a.1.lt g h2).2
          rcases hat9 with e | e
          · rw [e] at h1; exact HXY.out g h1 h2
          · rw [e] at h1; injection h1 with h1; omega
        have T9 : Below w.heap.size w w9 := (own_trans Tn (own_alloc T8 (.cells #[.slice (some ⟨A, 0, none⟩) N N] 31))).trans hb9
        clear X8 Y8 H8 G8 X8a Y8a H8a G8a X8r hR9 hg9 hat9 hb9 T8 hz8
        have hz9 := T9.size
        have X9a := X9.own (own_alloc (own_refl w9) (.cells #[.slice (some ⟨B, 0, none⟩) N N] 31))
        have Y9a := Y9.own (own_alloc (own_refl w9) (.cells #[.slice (some ⟨B, 0, none⟩) N N] 31))
        have H9a := ownsRow_weakZ (H9.alloc (.cells #[.slice (some ⟨B, 0, none⟩) N N] 31)) hzn
        have Y9r := Y9a.1
        rw [hul] at Y9r
        go_wp2_with (at_builtin; refine appRowAt (L := w.heap.size) (v := .slice ady k cpy) (n := k) (vs := us) (us := [.slice (some ⟨B, 0, none⟩) N N]) (m := 1) (c := 1) (g := w9.heap.size) (by rfl) _ _ (by rfl) _ (by rfl) Y9r (by rfl) rfl (cell1 _ _ _) one1 (by omega) (by simp; omega) ?_; intro v10 w10 hR10 hg10 hat10 hb10)
        have Y10 : GrW w10 w.heap.size v10 (us ++ [.slice (some ⟨B, 0, none⟩) N N]) (relUs n N (k + 1)) := by
          rw [relUs_snoc]
          exact Y9a.snoc H9a (by rw [hul]; exact hR10) hg10
        have X10 := X9a.other Y9r hne9 hg10
        have hne10 : ∀ g, v9.ownBlock = some g → v10.ownBlock ≠ some g := fun g h1 h2 => by
          have h3 := (X9a.1.lt g h1).2
          rcases hat10 with e | e
          · rw [e] at h2; exact hne9 g h1 h2
          · rw [e] at h2; injection h2 with h2; omega
        have T10 : Below w.heap.size w w10 := (own_alloc T9 (.cells #[.slice (some ⟨B, 0, none⟩) N N] 31)).trans hb10
        go_roundw
        case rel => exact ⟨k + 1, _, _, by omega, by go_num, X10, Y10, hne10, T10⟩
        case measure => simp [intOf]; omega
      · have T0 : Below wo.heap.size wo ((wo.alloc (.cells (Array.replicate N (.int .i64 0)) 2)).alloc (.cells (Array.replicate N (.int .i64 0)) 2)).drew := own_drew (own_alloc (own_alloc (own_refl _) _) _)
        have GS : Gr ((wo.alloc (.cells (Array.replicate N (.int .i64 0)) 2)).alloc (.cells (Array.replicate N (.int .i64 0)) 2)).drew wo.heap.size (.slice (some ⟨wo.heap.size, 0, none⟩) N N) (zer N) := Gr.drew (Gr.alloc (Gr.zer rfl (Nat.le_refl _) N (by omega)) _)
        have GT : Gr ((wo.alloc (.cells (Array.replicate N (.int .i64 0)) 2)).alloc (.cells (Array.replicate N (.int .i64 0)) 2)).drew wo.heap.size (.slice (some ⟨wo.heap.size + 1, 0, none⟩) N N) (zer N) := Gr.drew (Gr.zer (by simp) (by omega) N (by omega))
        generalize ((wo.alloc (.cells (Array.replicate N (.int .i64 0)) 2)).alloc (.cells (Array.replicate N (.int .i64 0)) 2)).drew = W0 at *
        obtain ⟨A, hA⟩ : ∃ A, wo.heap.size + 1 = A := ⟨_, rfl⟩
        obtain ⟨B, hB⟩ : ∃ B, wo.heap.size = B := ⟨_, rfl⟩
        have hAB : A ≠ B := by omega
        have hAl : wo.heap.size ≤ A := by omega
        have hBl : wo.heap.size ≤ B := by omega
        have GA : Gr W0 wo.heap.size (.slice (some ⟨A, 0, none⟩) N N) (zer N) := by rw [← hA]; exact GT
        have GB : Gr W0 wo.heap.size (.slice (some ⟨B, 0, none⟩) N N) (zer N) := by rw [← hB]; exact GS
        rw [hA, hB]
        clear hA hB GS GT
        obtain ⟨cA, fA⟩ := GA.at hlt
        rw [zer_get] at cA
        have G1 := bmp_putZ GA (by simp [zer]) hlt (y := 1) (by rw [zer_get]; rfl)
        have H1 := GB.far (p := ⟨A, k, none⟩) (Ne.symm hAB) (.int .i64 1)
        have T1 : Below wo.heap.size wo (W0.setCell ⟨A, k, none⟩ (.int .i64 1)) := own_setCell T0 hAl _
        clear GA GB
        go_wp2_with fail
        generalize W0.setCell ⟨A, k, none⟩ (.int .i64 1) = W1 at *
        refine (HA1.out _ _ _ (HG.out.own (own_trans Tn T1))).mono ?_
        rintro e W2 ⟨rfl, hb2⟩
        have T2 := own_trans T1 hb2
        have G2 := G1.own hb2
        have H2 := H1.own hb2
        obtain ⟨c2, f2⟩ := G2.at p1
        have x2 := bmp_bd (zer_le N) k a
        obtain ⟨x, hx⟩ : ∃ x, (bmp (zer N) k).getD a 0 = x := ⟨_, rfl⟩
        rw [hx] at c2 x2
        obtain ⟨_, _⟩ := x2
        have hwx : IntKind.i64.wrap (x + 1) = x + 1 := IntWalk.i64_in _ (by omega)
        have G3 := bmp_putZ G2 (by simp [bmp_len, zer]) p1 (y := x + 1) (by rw [hx])
        have H3 := H2.far (p := ⟨A, a, none⟩) (Ne.symm hAB) (.int .i64 (x + 1))
        have T3 : Below wo.heap.size wo (W2.setCell ⟨A, a, none⟩ (.int .i64 (x + 1))) := own_setCell T2 hAl _
        rw [← HRS.out] at G3
        clear T1 hb2 G1 H1 cA fA T0 G2 H2
        go_upto_region 9 with fail
        clear c2 f2 hwx hx
        generalize W2.setCell ⟨A, a, none⟩ (.int .i64 (x + 1)) = W3 at *
        obtain ⟨c3, f3⟩ := H3.at hlt
        rw [zer_get] at c3
        have H4 := bmp_putZ H3 (by simp [zer]) hlt (y := 1) (by rw [zer_get]; rfl)
        have G4 := G3.far (p := ⟨B, k, none⟩) hAB (.int .i64 1)
        have T4 : Below wo.heap.size wo (W3.setCell ⟨B, k, none⟩ (.int .i64 1)) := own_setCell T3 hBl _
        clear G3 H3
        go_wp2_with fail
        generalize W3.setCell ⟨B, k, none⟩ (.int .i64 1) = W4 at *
        refine (HA2.out _ _ _ (HG.out.own (own_trans Tn T4))).mono ?_
        rintro e W5 ⟨rfl, hb5⟩
        have T5 := own_trans T4 hb5
        have G5 := G4.own hb5
        have H5 := H4.own hb5
        obtain ⟨c5, f5⟩ := H5.at q1
        have x5 := bmp_bd (zer_le N) k b
        obtain ⟨y, hy⟩ : ∃ y, (bmp (zer N) k).getD b 0 = y := ⟨_, rfl⟩
        rw [hy] at c5 x5
        obtain ⟨_, _⟩ := x5
        have hwy : IntKind.i64.wrap (y + 1) = y + 1 := IntWalk.i64_in _ (by omega)
        have H6 := bmp_putZ H5 (by simp [bmp_len, zer]) q1 (y := y + 1) (by rw [hy])
        have G6 := G5.far (p := ⟨B, b, none⟩) hAB (.int .i64 (y + 1))
        have T6 : Below wo.heap.size wo (W5.setCell ⟨B, b, none⟩ (.int .i64 (y + 1))) := own_setCell T5 hBl _
        clear T3 T4 hb5 G4 H4 c3 f3 G5 H5
        go_upto_region 11 with fail
        clear c5 f5 hwy hy
        generalize W5.setCell ⟨B, b, none⟩ (.int .i64 (y + 1)) = W6 at *
        go_wp2_with fail
        refine (HA3.out _ _ _ (HG.out.own (own_trans Tn T6))).mono ?_
        rintro e W7 ⟨rfl, hb7⟩
        have T7 := own_trans T6 hb7
        have G7 := G6.own hb7
        have H7 := H6.own hb7
        obtain ⟨c7, f7⟩ := H7.at r1
        have x7 := bmp_bd (bmp_bd (zer_le N) k) b c
        obtain ⟨z, hz⟩ : ∃ z, (bmp (bmp (zer N) k) b).getD c 0 = z := ⟨_, rfl⟩
        rw [hz] at c7 x7
        obtain ⟨_, _⟩ := x7
        have hwz : IntKind.i64.wrap (z + 1) = z + 1 := IntWalk.i64_in _ (by omega)
        have H8 := bmp_putZ H7 (by simp [bmp_len, zer]) r1 (y := z + 1) (by rw [hz])
        have G8 := G7.far (p := ⟨B, c, none⟩) hAB (.int .i64 (z + 1))
        have T8 : Below wo.heap.size wo (W7.setCell ⟨B, c, none⟩ (.int .i64 (z + 1))) := own_setCell T7 hBl _
        rw [← HRU.out] at H8
        clear T6 hb7 G6 H6 G7 H7
        go_upto_region 12 with fail
        clear c7 f7 hwz hz
        generalize W7.setCell ⟨B, c, none⟩ (.int .i64 (z + 1)) = W8 at *
        have X8 := HXn.out.own T8
        have Y8 := HYn.out.own T8
        have hz8 := T8.size
        have hvl : vs.length = k := by rw [X8.2.1, relSs_len]
        have hul : us.length = k := by rw [Y8.2.1, relUs_len]
        have X8a := X8.own (own_alloc (own_refl W8) (.cells #[.slice (some ⟨A, 0, none⟩) N N] 31))
        have Y8a := Y8.own (own_alloc (own_refl W8) (.cells #[.slice (some ⟨A, 0, none⟩) N N] 31))
        have H8a := H8.alloc (.cells #[.slice (some ⟨A, 0, none⟩) N N] 31)
        have G8a := ownsRow_weakZ (G8.alloc (.cells #[.slice (some ⟨A, 0, none⟩) N N] 31)) hzn
        have X8r := X8a.1
        rw [hvl] at X8r
        go_upto_region 13 with (at_builtin; refine appRowAt (L := w.heap.size) (v := .slice adx k cpx) (n := k) (vs := vs) (us := [.slice (some ⟨A, 0, none⟩) N N]) (m := 1) (c := 1) (g := W8.heap.size) (by rfl) _ _ (by rfl) _ (by rfl) X8r (by rfl) rfl (cell1 _ _ _) one1 (by omega) (by simp; omega) ?_; intro v9 w9 hR9 hg9 hat9 hb9)
        have X9 : GrW w9 w.heap.size v9 (vs ++ [.slice (some ⟨A, 0, none⟩) N N]) (relSs n N (k + 1)) := by
          rw [relSs_snoc]
          exact X8a.snoc G8a (by rw [hvl]; exact hR9) hg9
        have Y9 := Y8a.other X8r (fun g h1 h2 => HXY.out g h2 h1) hg9
        have H9 := kept_apart (Ne.symm types_ss) H8a X8r hg9
        have hne9 : ∀ g, v9.ownBlock = some g → (Value.slice ady k cpy).ownBlock ≠ some g := fun g h1 h2 => by
          have h3 := (Y8a.1.lt g h2).2
          rcases hat9 with e | e
          · rw [e] at h1; exact HXY.out g h1 h2
          · rw [e] at h1; injection h1 with h1; omega
        have T9 : Below w.heap.size w w9 := (own_trans Tn (own_alloc T8 (.cells #[.slice (some ⟨A, 0, none⟩) N N] 31))).trans hb9
        clear X8 Y8 H8 G8 X8a Y8a H8a G8a X8r hR9 hg9 hat9 hb9 T8 hz8
        have hz9 := T9.size
        have X9a := X9.own (own_alloc (own_refl w9) (.cells #[.slice (some ⟨B, 0, none⟩) N N] 31))
        have Y9a := Y9.own (own_alloc (own_refl w9) (.cells #[.slice (some ⟨B, 0, none⟩) N N] 31))
        have H9a := ownsRow_weakZ (H9.alloc (.cells #[.slice (some ⟨B, 0, none⟩) N N] 31)) hzn
        have Y9r := Y9a.1
        rw [hul] at Y9r
        go_wp2_with (at_builtin; refine appRowAt (L := w.heap.size) (v := .slice ady k cpy) (n := k) (vs := us) (us := [.slice (some ⟨B, 0, none⟩) N N]) (m := 1) (c := 1) (g := w9.heap.size) (by rfl) _ _ (by rfl) _ (by rfl) Y9r (by rfl) rfl (cell1 _ _ _) one1 (by omega) (by simp; omega) ?_; intro v10 w10 hR10 hg10 hat10 hb10)
        have Y10 : GrW w10 w.heap.size v10 (us ++ [.slice (some ⟨B, 0, none⟩) N N]) (relUs n N (k + 1)) := by
          rw [relUs_snoc]
          exact Y9a.snoc H9a (by rw [hul]; exact hR10) hg10
        have X10 := X9a.other Y9r hne9 hg10
        have hne10 : ∀ g, v9.ownBlock = some g → v10.ownBlock ≠ some g := fun g h1 h2 => by
          have h3 := (X9a.1.lt g h1).2
          rcases hat10 with e | e
          · rw [e] at h2; exact hne9 g h1 h2
          · rw [e] at h2; injection h2 with h2; omega
        have T10 : Below w.heap.size w w10 := (own_alloc T9 (.cells #[.slice (some ⟨B, 0, none⟩) N N] 31)).trans hb10
        go_roundw
        case rel => exact ⟨k + 1, _, _, by omega, by go_num, X10, Y10, hne10, T10⟩
        case measure => simp [intOf]; omega
    · obtain rfl : k = N := by omega
      obtain ⟨adx, cpx, hvx⟩ := hx.shape
      obtain ⟨ady, cpy, hvy⟩ := hy.shape
      rw [relSs_len] at hvx
      rw [relUs_len] at hvy
      subst hvx hvy
      have hvl : vs.length = k := by rw [hx.2.1, relSs_len]
      have hul : us.length = k := by rw [hy.2.1, relUs_len]
      obtain ⟨gy, rfl, _, hcy⟩ := hy.cells hN0
      have hxr := hx.1
      rw [hvl] at hxr
      have hone := hy.oneC
      have hz := T.size
      go_wp2_with (at_builtin; refine appRowAt (L := w.heap.size) (v := .slice adx k cpx) (n := k) (vs := vs) (us := us) (m := k) (c := cpy) (g := gy) (by rfl) _ _ (by rfl) _ (by rfl) hxr (by rfl) hul hcy hone (by omega) hz ?_; intro v9 w9 hR9 hg9 _ hb9)
      go_ret
      exact ⟨v9, vs ++ us, rfl, hx.join hy (by rw [hvl, hul]; exact hR9) hg9, T.trans hb9⟩
end Go.Proofs.YtejghidllochoaaDoor
/- The laws' helpers over slices of slices of integers, however their rows lie. -/
namespace Go.Proofs.YtejghidllochoaaDoor
open Go.ChangeShapes Go.WideShapes Go.ChangeAt Go.RowKit

/-- The slice v has m rows, which read as told; all its memory lies below U. -/
def MixU (w : World) (U : Nat) (v : Value) (m : Nat) (vs : Nat → Value) (f : Nat → List Int) : Prop :=
  U ≤ w.heap.size ∧ (∃ ad cap, v = .slice ad m cap ∧ (0 < m → ∃ g, ad = some ⟨g, 0, none⟩ ∧ g < U ∧ ∀ k, k < m → w.cell? ⟨g, k, none⟩ = some (vs k))) ∧ ∀ k, k < m → Sl w 0 U (vs k) (f k)
theorem MixU.below {w w' : World} {U m : Nat} {v : Value} {vs : Nat → Value} {f : Nat → List Int} (h : MixU w U v m vs f) (hb : Below U w w') : MixU w' U v m vs f := by
  obtain ⟨h0, ⟨ad, cap, rfl, h1⟩, h2⟩ := h
  refine ⟨Nat.le_trans h0 hb.size, ⟨ad, cap, rfl, fun hm => ?_⟩, fun k hk => (h2 k hk).below hb⟩
  obtain ⟨g, e, hg, hc⟩ := h1 hm
  exact ⟨g, e, hg, fun k hk => (hb.cell (p := ⟨g, k, none⟩) hg).trans (hc k hk)⟩
theorem MixU.own {w w' : World} {U m : Nat} {v : Value} {vs : Nat → Value} {f : Nat → List Int} (h : MixU w U v m vs f) (hb : Below w.heap.size w w') : MixU w' U v m vs f := h.below (hb.mono h.1)
theorem Sl.low {w : World} {L L' U : Nat} {v : Value} {xs : List Int} (h : Sl w L U v xs) (hL : L' ≤ L) : Sl w L' U v xs := by
  obtain ⟨h0, a, cap, e, hc⟩ := h
  refine ⟨h0, a, cap, e, fun hn => ?_⟩
  obtain ⟨g, off, e1, e2, e3⟩ := hc hn
  exact ⟨g, off, e1, Nat.le_trans hL e2, e3⟩
theorem GrW.mixU {w : World} {L m : Nat} {v : Value} {vs : List Value} {xss : List (List Int)} {f : Nat → List Int} (h : GrW w L v vs xss) (hm : xss.length = m) (hf : ∀ j, j < m → xss.getD j [] = f j) : MixU w w.heap.size v m (fun k => vs.getD k rowZ) f := by
  subst hm
  obtain ⟨ad, cap, rfl⟩ := h.shape
  refine ⟨Nat.le_refl _, ⟨ad, cap, rfl, fun hn => ?_⟩, fun k hk => ?_⟩
  · obtain ⟨g, e, hg, hc⟩ := h.cells hn
    exact ⟨g, e, hg, fun k hk => hc k _ (by have : k < vs.length := by rw [h.2.1]; exact hk
                                            simp [List.getD, List.getElem?_eq_getElem this])⟩
  · rw [← hf k hk]
    exact (h.2.2 k hk).sl.low (Nat.zero_le _)
theorem Flat.mixU {w : World} {L g N M : Nat} {v : Value} {xs : List Int} {f : Nat → List Int} (h : Flat w L v g N M xs) (hR : RowsF xs N M f) (hl : ∀ j, j < M → (f j).length = N) (hM : 0 < M) (hN : 0 < N) : MixU w w.heap.size v M (rowV g N) f := by
  obtain ⟨h0, cap, rfl, _, h2, _, h3⟩ := h.shape hM
  refine ⟨Nat.le_refl _, ⟨_, cap, rfl, fun _ => ⟨h0, rfl, h2, h3⟩⟩, fun k hk => ?_⟩
  have hT := idx_lt (N := N) hM hN
  obtain ⟨_, hg, hc⟩ := h.cells (by omega)
  refine ⟨Nat.le_refl _, _, N, by rw [hl k hk]; rfl, fun _ => ⟨g, k * N, rfl, Nat.zero_le _, hg, fun i hi => ?_⟩⟩
  rw [hl k hk] at hi
  rw [← hR k hk i hi]
  exact hc _ (idx_lt hk hi)

set_option maxHeartbeats 1000000 in
theorem eqSSU (v u : Value) (m U U' : Nat) (vs us : Nat → Value) (f : Nat → List Int) (w : World) (hn : m ≤ 1000000) (hM : ∀ k, k < m → (f k).length ≤ 1000000) (hv : MixU w U v m vs f) (hu : MixU w U' u m us f) :
    Calls Tryd.prog 12 #[v, u] w fun e w' => e = .returned (.bool true) ∧ Below w.heap.size w w' := by
  obtain ⟨z, ⟨ad, cap, rfl, hc⟩, hr⟩ := hv
  obtain ⟨z', ⟨ad', cap', rfl, hc'⟩, hr'⟩ := hu
  have HV := Lib.hid hc
  have HU := Lib.hid hc'
  have HR := Lib.hid hr
  have HR' := Lib.hid hr'
  have HM := Lib.hid hM
  clear hc hc' hr hr' hM
  go_enter Tryd.func12, Tryd.ntmps12
  go_wp2
  go_loopw [5] (fun i wr => ∃ k : Nat, k ≤ m ∧ i = (.int .i64 k) ∧ Below w.heap.size w wr) (fun i _ => m - (intOf i).toNat)
  case atStart => exact ⟨0, Nat.zero_le _, rfl, own_refl _⟩
  case round =>
    obtain ⟨k, hk, rfl, hb⟩ := hrel
    by_cases hlt : k < m
    · obtain ⟨g, rfl, hg, hcg⟩ := HV.out (by omega)
      obtain ⟨g', rfl, hg', hcg'⟩ := HU.out (by omega)
      have c1 := (hb.cell (p := ⟨g, k, none⟩) (show g < _ by omega)).trans (hcg k hlt)
      have c2 := (hb.cell (p := ⟨g', k, none⟩) (show g' < _ by omega)).trans (hcg' k hlt)
      have R1 := Lib.hid ((HR.out k hlt).own hb)
      have R2 := Lib.hid ((HR'.out k hlt).own hb)
      have hrl := HM.out k hlt
      have gl : g < wr.heap.size := by have := hb.size; omega
      have gl' : g' < wr.heap.size := by have := hb.size; omega
      generalize vs k = r1 at *
      generalize us k = r2 at *
      generalize f k = xs at *
      clear hcg hcg'
      go_wp2_with fail
      go_region_held3 (fun w' => w'.cell? ⟨g, k, none⟩ = some r1 ∧ w'.cell? ⟨g', k, none⟩ = some r2) (go_keep)
        (first | (go_at_call 22; refine (eqS_same _ _ xs _ _ _ _ _ (by omega) (R1.out.below (below_drewN' (Below.refl _ _) 1)) (R2.out.below (below_drewN' (Below.refl _ _) 1))).mono ?_; rintro e w1 ⟨rfl, hb1⟩; have T1 := own_trans (own_drew hb) hb1; have k1 : w1.cell? ⟨g, k, none⟩ = some r1 := (hb1.cell (p := ⟨g, k, none⟩) gl).trans c1; have k2 : w1.cell? ⟨g', k, none⟩ = some r2 := (hb1.cell (p := ⟨g', k, none⟩) gl').trans c2; clear hb1))
      all_goals
        go_wp2
        go_roundw
        case rel => exact ⟨k + 1, by omega, by go_num, T1⟩
        case measure => simp [intOf]; omega
    · go_wp2
      go_ret
      exact ⟨rfl, hb⟩

/-- j marks from o on -/
def fillR (xs : List Int) (o : Nat) (m : Int) : Nat → List Int
  | 0 => xs
  | j + 1 => (fillR xs o m j).set (o + j) (m + j)
theorem fillR_len (xs : List Int) (o : Nat) (m : Int) : ∀ j : Nat, (fillR xs o m j).length = xs.length
  | 0 => rfl
  | j + 1 => by rw [fillR, List.length_set, fillR_len xs o m j]
theorem fillR_get (xs : List Int) (o : Nat) (m : Int) (q : Nat) : ∀ j : Nat, o + j ≤ xs.length → (fillR xs o m j).getD q 0 = if o ≤ q ∧ q < o + j then m + ((q - o : Nat) : Int) else xs.getD q 0
  | 0, _ => by rw [if_neg (by omega)]; rfl
  | j + 1, h => by
    have ih := fillR_get xs o m q j (by omega)
    rw [fillR]
    by_cases e : q = o + j
    · subst e
      rw [if_pos (by omega)]
      have hl := fillR_len xs o m j
      simp [List.getD, show o + j < (fillR xs o m j).length by omega]
    · have e2 : ((fillR xs o m j).set (o + j) (m + j)).getD q 0 = (fillR xs o m j).getD q 0 := by simp [List.getD, List.getElem?_set_ne (Ne.symm e)]
      rw [e2, ih]
      by_cases h2 : o ≤ q ∧ q < o + j
      · rw [if_pos h2, if_pos (by omega)]
      · rw [if_neg h2, if_neg (by omega)]
theorem RowsF.fill {xs : List Int} {N M j : Nat} {f : Nat → List Int} {m : Int} (h : RowsF xs N M f) (hl : xs.length = M * N) (hj : j < M) : RowsF (fillR xs (j * N) m N) N M (fun q => if q = j then ramp m N else f q) := by
  intro a ha i hi
  have hjN : j * N + N ≤ xs.length := by
    rw [hl]
    have h1 : (j + 1) * N ≤ M * N := Nat.mul_le_mul_right N hj
    rw [Nat.add_mul] at h1
    omega
  rw [fillR_get _ _ _ _ _ hjN]
  by_cases e : a = j
  · subst e
    rw [if_pos (by omega)]
    dsimp only
    rw [if_pos rfl, ramp_get _ _ _ hi]
    omega
  · rw [if_neg]
    · dsimp only
      rw [if_neg e]
      exact h a ha i hi
    · rintro ⟨h1, h2⟩
      have h3 : j * N + (a * N + i - j * N) = a * N + i := by omega
      exact e (idx_row hi (show a * N + i - j * N < N by omega) h3.symm).1
set_option maxHeartbeats 1000000 in
theorem markRow (xs : List Int) (m : Int) (g o cap T N L : Nat) (w : World) (hT : xs.length = T) (hoN : o + N ≤ T) (hTb : T ≤ 1000000) (hm : 0 ≤ m) (hm' : m ≤ 4294967296) (hv : Gr w L (.slice (some ⟨g, 0, none⟩) T cap) xs) :
    Calls Tryd.prog 27 #[.slice (some ⟨g, o, none⟩) N N, (.int .i64 m)] w fun e w' => e = .returned (.int .i64 (m + N)) ∧ Gr w' L (.slice (some ⟨g, 0, none⟩) T cap) (fillR xs o m N) ∧ w.grownBy w' (some g) := by
  have HV := Lib.hid hv
  have HT := Lib.hid hT
  clear hv hT
  go_enter Tryd.func27, Tryd.ntmps27
  go_wp2
  go_loopw [1, 5] (fun q i wr => ∃ k : Nat, k ≤ N ∧ i = (.int .i64 k) ∧ q = (.int .i64 (m + k)) ∧ Hid (Gr wr L (.slice (some ⟨g, 0, none⟩) T cap) (fillR xs o m k)) ∧ w.grownBy wr (some g)) (fun _ i _ => N - (intOf i).toNat)
  case atStart => exact ⟨0, Nat.zero_le _, rfl, by simp, HV, DRR w _⟩
  case round =>
    obtain ⟨k, hk, rfl, rfl, HG, hb⟩ := hrel
    by_cases hlt : k < N
    · have hpl : (fillR xs o m k).length = T := by rw [fillR_len]; exact HT.out
      obtain ⟨g', e, _, _, hc⟩ := HG.out.cellsZ (by omega)
      injection e with e; injection e with e; subst e
      obtain ⟨hx, hf⟩ := hc (o + k) (by omega)
      have HS : Hid (Gr (wr.setCell ⟨g, o + k, none⟩ (.int .i64 (m + k))) L (.slice (some ⟨g, 0, none⟩) T cap) (fillR xs o m (k + 1))) := Lib.hid (by
        have h2 := (show Gr wr L (.slice (some ⟨g, 0, none⟩) (fillR xs o m k).length cap) (fillR xs o m k) by rw [hpl]; exact HG.out).putZ (k := o + k) (y := m + k) (by rw [hpl]; omega)
        rw [hpl] at h2
        exact h2)
      have HW : Hid (w.grownBy (wr.setCell ⟨g, o + k, none⟩ (.int .i64 (m + k))) (some g)) := Lib.hid (World.grownBy.trans hb (setRow wr ⟨g, o + k, none⟩ (.int .i64 (m + k))))
      clear hc
      go_wp2
      go_roundw
      case rel => exact ⟨k + 1, by omega, by go_num, by go_num, HS, HW.out⟩
      case measure => simp [intOf]; omega
    · obtain rfl : k = N := by omega
      go_wp2
      go_ret
      exact ⟨rfl, HG.out, hb⟩
theorem relN {n : Int} (hn : lvC n = 0) : 1 ≤ n ∧ n ≤ 60 ∧ (ln n).length ≤ 72 ∧ 0 < (ln n).length := by
  have hn' : 1 ≤ n ∧ n ≤ 60 := of_decide_eq_true (lvC_0 hn).1
  refine ⟨hn'.1, hn'.2, (lvC_len hn).2, ?_⟩
  obtain ⟨K, hK, _⟩ := nrm_in hn'.1 (show isP n 0 1 = true by simp [isP])
  omega
/-- the marks of a row -/
def mkF (N k : Nat) : List Int := ramp (1 + (k * N : Nat)) N
set_option maxRecDepth 100000 in
set_option maxHeartbeats 1000000 in
theorem markFlat (xs : List Int) (v : Value) (g N M T L : Nat) (f : Nat → List Int) (w : World) (hT : M * N = T) (hM : 0 < M) (hN : 0 < N) (hTb : T ≤ 1000000) (hM2 : M ≤ 1000000) (hF : Flat w L v g N M xs) (hR : RowsF xs N M f) :
    Calls Tryd.prog 13 #[v, (.int .i64 1)] w fun e w' => e = .returned (.int .i64 (1 + (T : Int))) ∧ (∃ ys, Flat w' L v g N M ys ∧ RowsF ys N M (mkF N)) ∧ w.grownBy w' (some g) := by
  obtain ⟨h0, cap, rfl, _, hl0, hne, hrows⟩ := hF.shape hM
  have HF := Lib.hid hF
  have HR := Lib.hid hR
  have HC := Lib.hid hrows
  have HT := Lib.hid hT
  clear hF hR hrows hT
  go_enter Tryd.func13, Tryd.ntmps13
  go_wp2
  go_loopw [1, 5] (fun q i wr => ∃ (k : Nat) (x : Nat) (ys : List Int), k ≤ M ∧ i = (.int .i64 k) ∧ q = (.int .i64 (1 + (x : Int))) ∧ Hid (k * N = x) ∧ Hid (Flat wr L (.slice (some ⟨h0, 0, none⟩) M cap) g N M ys) ∧ Hid (RowsF ys N M (fun j => if j < k then mkF N j else f j)) ∧ w.grownBy wr (some g)) (fun _ i _ => M - (intOf i).toNat)
  case atStart => exact ⟨0, 0, xs, Nat.zero_le _, rfl, by simp, Lib.hid (by simp), HF, Lib.hid (HR.out.congr fun j _ => by rw [if_neg (by omega)]), DRR w _⟩
  case round =>
    obtain ⟨k, x, ys, hk, rfl, rfl, HX, HG, HY, hg⟩ := hrel
    by_cases hlt : k < M
    · have c1 := (grown_cell (o := k) hg hl0 hne).trans (HC.out k hlt)
      simp only [rowV] at c1
      have hx := HX.out
      have hb := idx_lt (N := N) (M := M) (j := k) (i := N - 1) hlt (by omega)
      rw [hx] at c1 hb
      have hT := HT.out
      have hkT : x + N ≤ T := by omega
      have hF2 := HG.out.flat
      rw [hT] at hF2
      have HY2 : Hid (RowsF (fillR ys x (1 + (x : Int)) N) N M (fun j => if j < k + 1 then mkF N j else f j)) := Lib.hid (by
        have := HY.out.fill (m := 1 + (x : Int)) HG.out.len hlt
        rw [hx] at this
        refine this.congr fun j hj => ?_
        by_cases e : j = k
        · subst e
          rw [if_pos rfl, if_pos (by omega), mkF, hx]
        · rw [if_neg e]
          by_cases e2 : j < k
          · rw [if_pos e2, if_pos (by omega)]
          · rw [if_neg e2, if_neg (by omega)])
      have HX2 : Hid ((k + 1) * N = x + N) := Lib.hid (by rw [Nat.add_mul, hx]; omega)
      have HFL := Lib.hid (fun w hv => markRow ys (1 + (x : Int)) g x T T N L w (by rw [← hT]; exact HG.out.len) hkT hTb (by omega) (by omega) hv)
      have HF2 := Lib.hid hF2
      clear hx hb hF2
      go_wp2_with fail
      refine (HFL.out _ HF2.out).mono ?_
      rintro e w1 ⟨rfl, hG1, hg1⟩
      have hF3 : Flat w1 L (.slice (some ⟨h0, 0, none⟩) M cap) g N M (fillR ys x (1 + (x : Int)) N) := HG.out.put hg1 (by rw [HT.out]; exact hG1) (by rw [fillR_len]; exact HG.out.len)
      obtain ⟨y, hy⟩ : ∃ y : Nat, x + N = y := ⟨_, rfl⟩
      have hyI : 1 + (x : Int) + (N : Int) = 1 + (y : Int) := by omega
      rw [hyI]
      rw [hy] at HX2
      have HF3 := Lib.hid hF3
      have HG3 := Lib.hid (World.grownBy.trans hg hg1)
      clear hF3 hG1 hT hyI
      go_wp2
      go_roundw
      case rel => exact ⟨k + 1, y, _, by omega, by go_num, rfl, HX2, HF3, HY2, HG3.out⟩
      case measure => simp [intOf]; omega
    · obtain rfl : k = M := by omega
      have HE : Hid (x = T) := Lib.hid (by rw [← HX.out, HT.out])
      go_wp2
      go_ret
      exact ⟨ret_int (by rw [HE.out]), ⟨ys, HG.out, HY.out.congr fun j hj => by rw [if_pos (by omega)]⟩, hg⟩
set_option maxRecDepth 100000 in
set_option maxHeartbeats 1000000 in
theorem heldFlat (v : Value) (vs : Nat → Value) (N M T U : Nat) (w : World) (hT : M * N = T) (hTb : T ≤ 1000000) (hM2 : M ≤ 1000000) (hN2 : N ≤ 1000000) (hv : MixU w U v M vs (mkF N)) :
    Calls Tryd.prog 14 #[v, (.int .i64 1)] w fun e w' => e = .returned (.int .i64 (1 + (T : Int))) ∧ w = w' := by
  obtain ⟨z, ⟨ad, cap, rfl, hc⟩, hr⟩ := hv
  have HV := Lib.hid hc
  have HR := Lib.hid hr
  have HT := Lib.hid hT
  clear hc hr hT
  go_enter Tryd.func14, Tryd.ntmps14
  go_wp2
  go_loopw [1, 5] (fun q i wr => ∃ (k : Nat) (x : Nat), k ≤ M ∧ i = (.int .i64 k) ∧ q = (.int .i64 (1 + (x : Int))) ∧ Hid (k * N = x) ∧ w = wr) (fun _ i _ => M - (intOf i).toNat)
  case atStart => exact ⟨0, 0, Nat.zero_le _, rfl, by simp, Lib.hid (by simp), rfl⟩
  case round =>
    obtain ⟨k, x, hk, rfl, rfl, HX, rfl⟩ := hrel
    by_cases hlt : k < M
    · obtain ⟨g, rfl, hg, hcg⟩ := HV.out (by omega)
      have c1 := hcg k hlt
      have hrow := HR.out k hlt
      have hx := HX.out
      have HX2 : Hid ((k + 1) * N = x + N) := Lib.hid (by rw [Nat.add_mul, hx]; omega)
      have hxT : x + N ≤ T := by
        have h1 : (k + 1) * N ≤ M * N := Nat.mul_le_mul_right N hlt
        rw [Nat.add_mul, hx, HT.out] at h1
        omega
      rw [mkF, hx] at hrow
      have HRW := Lib.hid hrow
      generalize vs k = r at *
      clear hx hrow hcg
      go_wp2_with fail
      refine (heldS_ramp r (1 + (x : Int)) N _ _ _ (by omega) (by omega) (by omega) HRW.out).mono ?_
      rintro e w1 ⟨rfl, rfl⟩
      obtain ⟨y, hy⟩ : ∃ y : Nat, x + N = y := ⟨_, rfl⟩
      have hyI : 1 + (x : Int) + (N : Int) = 1 + (y : Int) := by omega
      rw [hyI]
      rw [hy] at HX2
      clear hyI
      go_wp2
      go_roundw
      case rel => exact ⟨k + 1, y, by omega, by go_num, rfl, HX2, by trivial⟩
      case measure => simp [intOf]; omega
    · obtain rfl : k = M := by omega
      have HE : Hid (x = T) := Lib.hid (by rw [← HX.out, HT.out])
      go_wp2
      go_ret
      exact ⟨ret_int (by rw [HE.out]), rfl⟩
end Go.Proofs.YtejghidllochoaaDoor
