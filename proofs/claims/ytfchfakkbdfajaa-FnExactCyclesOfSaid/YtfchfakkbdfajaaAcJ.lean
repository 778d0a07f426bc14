/- Cycles of a permutation: the model's list. -/
import Derived.Test.YtfchfakkbdfajaaAcD
namespace Go.Proofs.Ytfchfakkbdfajaa
open Go.ChangeShapes Go.WideShapes Go.ChangeAt Go.RowKit

/-- the block holds bools -/
def Typ (w : World) (g : Nat) : Prop := ∃ cur fz, w.heap[g]? = some (.cells cur 4 fz)
theorem Typ.same {w w' : World} {g : Nat} (h : Typ w g) (e : w'.heap[g]? = w.heap[g]?) : Typ w' g := by
  obtain ⟨c, f, h⟩ := h
  exact ⟨c, f, e.trans h⟩
theorem Typ.low {w w' : World} {g L : Nat} (h : Typ w g) (hb : Below L w w') (hg : g < L) : Typ w' g := h.same (hb.block g hg)
theorem Typ.lt {w : World} {g : Nat} (h : Typ w g) : g < w.heap.size := by
  obtain ⟨c, f, h⟩ := h
  exact (Array.getElem?_eq_some_iff.1 h).1
theorem Typ.new {w : World} {g : Nat} (hg : w.heap.size = g) (cs : Array Value) : Typ (w.alloc (.cells cs 4)) g := by
  subst hg
  exact ⟨_, _, heap_alloc_new w _⟩
theorem Typ.alloc {w : World} {g : Nat} (h : Typ w g) (o : Obj) : Typ (w.alloc o) g := h.same (Below.heap_alloc _ _ _ h.lt)
theorem Typ.drew {w : World} {g : Nat} (h : Typ w g) : Typ w.drew g := h
theorem Typ.set {w : World} {g : Nat} (h : Typ w g) (p : Addr) (u : Value) : Typ (w.setCell p u) g := by
  obtain ⟨c, f, h⟩ := h
  by_cases e : p.block = g
  · subst e
    refine ⟨if p.spot.isSome then c else c.setIfInBounds p.off u, f, ?_⟩
    simp [World.setCell, Array.getElem?_modify, h]
  · exact ⟨c, f, (Below.heap_setCell w p u g (fun h => e h.symm)).trans h⟩
theorem kept_typ {w w' : World} {L gm : Nat} {t : TypeId} {v : Value} {n : Nat} {xs : List Value} (h : w.ownsRow L t 1 v n xs) (hg : w.grownBy w' (some gm)) (hB : Typ w gm) (ht : t ≠ 4) : w'.ownsRow L t 1 v n xs := by
  refine World.ownsRow.kept h hg ?_
  rcases e : v.ownBlock with _ | k
  · exact .inl rfl
  · refine .inr fun he => ?_
    injection he with he
    subst he
    obtain ⟨cur, h1⟩ := own_heap h e
    obtain ⟨c, f, h2⟩ := hB
    rw [h1] at h2
    injection h2 with h2
    injection h2 with _ h2 _
    exact ht h2
theorem snocT {wo w w' : World} {L gm : Nat} {v v' r : Value} {xss : List (List Int)} {xs : List Int} {vs : List Value} (hG : GrV wo L v vs xss) (hw : wo.grownBy w (some gm)) (hm : Typ wo gm) (hr : Gr w L r xs)
    (hrb : ∀ k, r.ownBlock = some k → wo.heap.size ≤ k) (hown : w'.ownsRow L 22 1 v' (vs.length + 1) (vs ++ [r])) (hgr : w.grownBy w' v.ownBlock) : GrSS w' L v' (xss ++ [xs]) := by
  have hG' : GrV w L v vs xss := ⟨kept_typ hG.1 hw hm (by decide), hG.2.1, fun i hi => kept_typ (hG.2.2.1 i hi) hw hm (by decide), hG.2.2.2⟩
  obtain ⟨h1, h2, h3, h4⟩ := hG
  obtain ⟨h1w, _, h3w, _⟩ := hG'
  refine ⟨vs ++ [r], ?_, by simp [h2], fun i hi => ?_, fun i j hij hj g hg => ?_⟩
  · rw [List.length_append]; exact hown
  · simp only [List.length_append, List.length_cons, List.length_nil] at hi
    by_cases e : i < xss.length
    · have e1 : (vs ++ [r]).getD i rowZ = vs.getD i rowZ := by simp [List.getD, List.getElem?_append_left (show i < vs.length by omega)]
      have e2 : (xss ++ [xs]).getD i [] = xss.getD i [] := by simp [List.getD, List.getElem?_append_left e]
      rw [e1, e2]
      exact kept_apart (Ne.symm types_ss) (h3w i e) h1w hgr
    · obtain rfl : i = xss.length := by omega
      have e1 : (vs ++ [r]).getD xss.length rowZ = r := by simp [List.getD, ← h2]
      have e2 : (xss ++ [xs]).getD xss.length [] = xs := by simp [List.getD]
      rw [e1, e2]
      exact kept_apart (Ne.symm types_ss) hr h1w hgr
  · simp only [List.length_append, List.length_cons, List.length_nil] at hj
    have e1 : (vs ++ [r]).getD i rowZ = vs.getD i rowZ := by simp [List.getD, List.getElem?_append_left (show i < vs.length by omega)]
    rw [e1] at hg
    by_cases e : j < xss.length
    · have e2 : (vs ++ [r]).getD j rowZ = vs.getD j rowZ := by simp [List.getD, List.getElem?_append_left (show j < vs.length by omega)]
      rw [e2]
      exact h4 i j hij e g hg
    · obtain rfl : j = xss.length := by omega
      have e2 : (vs ++ [r]).getD xss.length rowZ = r := by simp [List.getD, ← h2]
      rw [e2]
      intro he
      have a := hrb g he
      have b := ((h3 i (by omega)).lt g hg).2
      omega
/-- 'xss = append(xss, row)', where a block below the rows has turned since the row was begun. -/
theorem appSST {ops : Array Oper} {rest : List Oper} {o : Oper} {a : Act} {Q : Exit → Act → World → Prop} (hgd : o.guard = none) (s x : Operand)
    (ho : o.op = .call { callee := .builtin .append, args := #[s, x], argTypes := #[31, 31] })
    (L gm : Nat) (wo w : World) (v : Value) (xss : List (List Int)) (r : Value) (xs : List Int) (hs : a.eval s = v) (hown : GrSS wo L v xss) (hw : wo.grownBy w (some gm)) (hm : Typ wo gm) (hr : Gr w L r xs) (hrb : ∀ k, r.ownBlock = some k → wo.heap.size ≤ k)
    (h1c : r.oneCell' = true) (g : Nat) (hx : a.eval x = .slice (some ⟨g, 0, none⟩) 1 1) (hg : w.heap.size = g) (hlen : xss.length ≤ 1000000) (hL : L ≤ w.heap.size)
    (h : ∀ v' w', GrSS w' L v' (xss ++ [xs]) → Below L w w' → w.grownBy w' v.ownBlock → wpList Try.prog ops Q rest (a.put o.dst v') w') : wpList Try.prog ops Q (o :: rest) a (w.alloc (.cells #[r] 22)) := by
  obtain ⟨i0, hi, hz0, hz1, hz2⟩ := info_parts info_row
  subst hg
  obtain ⟨vs, hV⟩ := hown
  have hvl : vs.length = xss.length := hV.2.1
  have hwn : wo.grownBy (w.alloc (.cells #[r] 22)) (some gm) := World.grownBy.trans hw ⟨rfl, rfl, rfl, by simp, fun k hk _ => Below.heap_alloc _ _ _ hk⟩
  refine wpList_append_own _ hgd s x 31 ho L 22 i0 (.slice none 0 0) 1 24 Try.underlying31 hi hz0 hz1 hz2 rfl (by decide) v vs.length _ hs (kept_typ hV.1 hwn hm (by decide)) ⟨w.heap.size, 0, none⟩ 1 1 [r] hx rfl ?_ ?_ ?_ ?_ ?_ ?_
  · intro j u hj
    match j, hj with
    | 0, hj => simp at hj; subst hj; simp [Addr.add]
  · intro u hu; simp at hu; subst hu; exact h1c
  · unfold maxLen; omega
  · omega
  · simp; omega
  · intro v' w' hown' hgrow _
    refine h v' w' (snocT hV hwn hm (Gr.alloc hr _) hrb hown' hgrow) ?_ (World.grownBy.trans (b := w.alloc (.cells #[r] 22)) ⟨rfl, rfl, rfl, by simp, fun k hk _ => Below.heap_alloc _ _ _ hk⟩ hgrow)
    have hb : Below L w (w.alloc (.cells #[r] 22)) := (Below.refl L w).alloc hL _
    exact hb.grown hgrow (by simp; omega) (fun j hj => (hV.1.lt j hj).1)
theorem Typ.grown {w w' : World} {g : Nat} {row : Option Nat} (h : Typ w g) (hg : w.grownBy w' row) (hn : row ≠ some g) : Typ w' g := h.same (hg.5 g h.lt (fun e => hn e.symm))
theorem GrSS.notB {w : World} {L g : Nat} {v : Value} {xss : List (List Int)} (h : GrSS w L v xss) (hB : Typ w g) : v.ownBlock ≠ some g := fun e => by
  obtain ⟨vs, h1, _⟩ := h
  obtain ⟨cur, h2⟩ := own_heap h1 e
  obtain ⟨c, f, h3⟩ := hB
  rw [h2] at h3
  injection h3 with h3
  injection h3 with _ h3 _
  exact absurd h3 (by decide)
/-- what the model's walk keeps -/
structure CKT (w : World) (gF : Nat) (vs : List Value) (wr : World) (o : List Bool) : Prop where
  below : Below w.heap.size w wr
  box : Box wr gF (o.map Value.bool)
  typ : Typ wr gF
  arg : Box wr w.heap.size vs
set_option maxRecDepth 100000 in
set_option maxHeartbeats 8000000 in
theorem l10Cycles_is (s t : List Int) (N : Nat) (hNb : N ≤ 1000) (hN0 : 0 < N) (hs : Pm s N) (ht : Pm t N) (a b : Value) (w : World) (ha : Rl w a s) (hr : Rl w b t) :
    Calls Try.prog 43 #[.agg #[a, b]] w fun e w' => ∃ v', e = .returned v' ∧ GrSS w' w.heap.size v' (cyQ t N N).2 ∧ Below w.heap.size w w' := by
  obtain ⟨gs, ks, rfl, _⟩ := ha.at (by rw [hs.len]; exact hN0)
  obtain ⟨gl, kl, rfl, hcl⟩ := hr.at (by rw [ht.len]; exact hN0)
  rw [hs.len, ht.len] at *
  have hgl := hcl.1
  have HG := Lib.hid hcl
  have HT := Lib.hid ht
  have hmk := mkBools N (by omega)
  have B0 : Box (w.alloc (.cells #[.slice (some ⟨gs, 0, none⟩) N ks, .slice (some ⟨gl, 0, none⟩) N kl] 27)) w.heap.size [.slice (some ⟨gs, 0, none⟩) N ks, .slice (some ⟨gl, 0, none⟩) N kl] := Box.new _ _ _
  have T0 := own_alloc (own_refl w) (.cells #[.slice (some ⟨gs, 0, none⟩) N ks, .slice (some ⟨gl, 0, none⟩) N kl] 27)
  have hsz : (w.alloc (.cells #[.slice (some ⟨gs, 0, none⟩) N ks, .slice (some ⟨gl, 0, none⟩) N kl] 27)).heap.size = w.heap.size + 1 := by simp
  clear hr hcl ht ha hs
  go_enter Try.func43, Try.ntmps43
  go_upto_region 1 with fail
  generalize w.alloc (.cells #[.slice (some ⟨gs, 0, none⟩) N ks, .slice (some ⟨gl, 0, none⟩) N kl] 27) = w0 at *
  obtain ⟨-, c0, c1, -, -⟩ := B0.two
  go_cut [3, 4] (fun v f wx => ∃ gF, f = .slice (some ⟨gF, 0, none⟩) N N ∧ w.heap.size < gF ∧ CKT w gF [.slice (some ⟨gs, 0, none⟩) N ks, .slice (some ⟨gl, 0, none⟩) N kl] wx (cyQ t N 0).1 ∧ GrSS wx (w.heap.size + 1) v [])
  case first =>
    have hw0 : w.heap.size + 1 ≤ w0.heap.size := by omega
    go_region
    · go_wp2_with fail
      go_meet
      have e1 : (w0.alloc (.cells #[] 22)).heap.size = w.heap.size + 1 + 1 := by simp [hsz]
      exact ⟨_, rfl, by omega, ⟨own_drew (own_alloc (own_alloc T0 _) _), Box.drew (boxBools e1 N), Typ.drew (Typ.new e1 _), Box.drew ((B0.alloc _).alloc _)⟩, by
        have G := GrSS.lit w0 (w.heap.size + 1) hw0
        rw [hsz] at G
        exact (G.own (own_alloc (own_refl _) _)).own (own_drew (own_refl _))⟩
    · go_wp2_with fail
      go_meet
      exact ⟨_, rfl, by omega, ⟨own_drew (own_alloc (own_alloc T0 _) _), Box.drew (Box.alloc (boxBools hsz N) _), Typ.drew (Typ.alloc (Typ.new hsz _) _), Box.drew ((B0.alloc _).alloc _)⟩, by
        have G := GrSS.lit (w0.alloc (.cells (Array.replicate N (Value.bool false)) 4)) (w.heap.size + 1) (by simp; omega)
        simp only [World.size_alloc, hsz] at G
        exact G.own (own_drew (own_refl _))⟩
  case rest =>
    obtain ⟨gF, rfl, hgF, hC, hS⟩ := hcut
    clear B0 T0 hsz c0 c1
    go_wp2_with fail
    go_loopw [3, 5] (fun v x wr => ∃ k : Nat, k ≤ N ∧ x = (.int .i64 ((k : Int))) ∧ CKT w gF [.slice (some ⟨gs, 0, none⟩) N ks, .slice (some ⟨gl, 0, none⟩) N kl] wr (cyQ t N k).1 ∧ GrSS wr (w.heap.size + 1) v (cyQ t N k).2) (fun _ x _ => N - (intOf x).toNat)
    case atStart => exact ⟨0, Nat.zero_le _, rfl, hC, hS⟩
    case round =>
      clear hC hS
      obtain ⟨k, hk, rfl, hC, hS⟩ := hrel
      have hcu := cyQ_len t N k
      have HSU : Hid (cyQ t N (k + 1) = if (cyQ t N k).1.getD k true = false then (mkB t (N + 1) k (cyQ t N k).1, (cyQ t N k).2 ++ [cyB t (N + 1) k (cyQ t N k).1]) else cyQ t N k) := Lib.hid rfl
      obtain ⟨o, ho⟩ : ∃ o, (cyQ t N k).1 = o := ⟨_, rfl⟩
      obtain ⟨css, hcss⟩ : ∃ css, (cyQ t N k).2 = css := ⟨_, rfl⟩
      have HO := Lib.hid (And.intro ho hcss)
      rw [ho] at hC hcu HSU
      rw [hcss] at hS hcu HSU
      clear ho hcss
      obtain ⟨hol, hclen⟩ := hcu
      obtain ⟨adc, capc, hv⟩ := hS.shape
      subst hv
      obtain ⟨-, c0, c1, -, -⟩ := hC.arg.two
      by_cases hlt : k < N
      · obtain ⟨ck1, ck2⟩ := hC.box.2 k _ (bools_at (by omega) true)
        rcases hx0 : o.getD k true with _ | _
        · rw [hx0] at ck1
          obtain ⟨all, hall⟩ : ∃ all, cyB t (N + 1) k o = all := ⟨_, rfl⟩
          have HA := Lib.hid hall
          have HX0 := Lib.hid hx0
          have hzo : gF < wr.heap.size := hC.typ.lt
          have hzw : w.heap.size < wr.heap.size := hC.arg.1
          have HS := Lib.hid hS
          have HC := Lib.hid hC
          have TE := own_alloc (own_refl wr) (.cells #[] 2)
          have G0 : Gr (wr.alloc (.cells #[] 2)) wr.heap.size (.slice (some ⟨wr.heap.size, 0, none⟩) 0 0) [] := World.ownsRow_lit wr #[] 0 (Nat.le_refl _) (by unfold maxLen; omega) rfl
          have HC1 := Lib.hid (show CKT w gF [.slice (some ⟨gs, 0, none⟩) N ks, .slice (some ⟨gl, 0, none⟩) N kl] (wr.alloc (.cells #[] 2)) o from ⟨own_trans hC.below TE, hC.box.alloc _, hC.typ.alloc _, hC.arg.alloc _⟩)
          have hgr : wr.grownBy (wr.alloc (.cells #[] 2)) (some gF) := ⟨rfl, rfl, rfl, by simp, fun k hk _ => Below.heap_alloc _ _ _ hk⟩
          have hsE : wr.heap.size ≤ (wr.alloc (.cells #[] 2)).heap.size := by simp
          clear hS hC hx0
          go_upto_region 7 with fail
          generalize wr = wo at *
          generalize wo.alloc (.cells #[] 2) = wE at *
          obtain ⟨-, c0, c1, -, -⟩ := HC1.out.arg.two
          go_wp2_with fail
          go_loopw [6, 7] (fun c a wr => ∃ (f m : Nat) (o2 : List Bool) (pre : List Int), a = (.int .i64 ((m : Int))) ∧ m < N ∧ offs o2 < f ∧ o2.length = N ∧ pre.length + offs o2 ≤ N ∧
              Hid (mkB t f m o2 = mkB t (N + 1) k o ∧ pre ++ cyB t f m o2 = all) ∧ CKT w gF [.slice (some ⟨gs, 0, none⟩) N ks, .slice (some ⟨gl, 0, none⟩) N kl] wr o2 ∧ wo.grownBy wr (some gF) ∧ Gr wr wo.heap.size c pre ∧ wo.heap.size ≤ wr.heap.size) (fun c _ _ => N - lenOf c)
          case atStart =>
            refine ⟨N + 1, k, o, [], rfl, hlt, by have := offs_le o; omega, hol, by have := offs_le o; simp; omega, Lib.hid ⟨rfl, by simpa using HA.out⟩, HC1.out, hgr, G0, hsE⟩
          case round =>
            clear c0 c1
            obtain ⟨f, m, o2, pre, rfl, hm, hf, hol2, hpn, HM, hC2, hgw, hF, hzz⟩ := hrel
            obtain ⟨cm1, cm2⟩ := hC2.box.2 m _ (bools_at (by omega) true)
            obtain ⟨-, c0, c1, -, -⟩ := hC2.arg.two
            obtain ⟨adp, capp, hv⟩ := hF.shape
            subst hv
            rcases hy : o2.getD m true with _ | _
            · rw [hy] at cm1
              obtain ⟨f, rfl⟩ : ∃ f', f = f' + 1 := ⟨f - 1, by omega⟩
              have HNG := Lib.hid (offs_set hy)
              have HM2 : Hid (mkB t f (pt t m) (o2.set m true) = mkB t (N + 1) k o ∧ (pre ++ [(m : Int)]) ++ cyB t f (pt t m) (o2.set m true) = all) := Lib.hid ⟨by rw [← HM.out.1, (cyB_yes hy).2], by rw [← HM.out.2, (cyB_yes hy).1, List.append_assoc]; rfl⟩
              obtain ⟨hl1, hl2⟩ := HT.out.at hm
              have BS : Box (wr.setCell ⟨gF, m, none⟩ (.bool true)) gF ((o2.set m true).map Value.bool) := by
                rw [bools_set]
                exact hC2.box.set m (by simp; omega) _
              have TS := own_setCell hC2.below (p := ⟨gF, m, none⟩) (by show w.heap.size ≤ gF; omega) (.bool true)
              have GO : wo.grownBy (wr.setCell ⟨gF, m, none⟩ (.bool true)) (some gF) := hgw.trans (grownSetA _ _ _)
              have hFS : Gr (wr.setCell ⟨gF, m, none⟩ (.bool true)) wo.heap.size (.slice adp pre.length capp) pre := hF.set (by dsimp only; omega) _
              have hzS : wo.heap.size ≤ (wr.setCell ⟨gF, m, none⟩ (.bool true)).heap.size := by simpa [World.setCell] using hzz
              have YS := hC2.typ.set ⟨gF, m, none⟩ (.bool true)
              have AS := hC2.arg.far (p := ⟨gF, m, none⟩) (by simp; omega) (.bool true)
              clear hy
              have hcl3 : ∀ w3, Below wo.heap.size (wr.setCell ⟨gF, m, none⟩ (.bool true)) w3 → w3.cell? ⟨gl, m, none⟩ = some (.int .i64 ((pt t m : Int))) ∧ w3.cell? ⟨w.heap.size, 0, none⟩ = some (.slice (some ⟨gs, 0, none⟩) N ks) ∧ w3.cell? ⟨w.heap.size, 1, none⟩ = some (.slice (some ⟨gl, 0, none⟩) N kl) := fun w3 hb3 => by
                have c0 := HG.out.2 m (by rw [HT.out.len]; exact hm)
                rw [hl1] at c0
                have A3 := AS.low hb3 hzw
                exact ⟨((hb3.cell (p := ⟨gl, m, none⟩) (by show gl < _; omega)).trans (TS.cell (p := ⟨gl, m, none⟩) hgl)).trans c0, A3.two.2.1, A3.two.2.2.1⟩
              have HCL := Lib.hid hcl3
              clear hcl3 hl1
              go_wp2_with (at_builtin; refine app64 rfl _ _ rfl wo.heap.size (wr.setCell ⟨gF, m, none⟩ (.bool true)) (.slice adp pre.length capp) pre (m : Int) rfl hFS wr.heap.size rfl (by simp [World.setCell]) (by omega) (by omega) ?_; intro v' w3 hF3 hb3; have c3 := (HCL.out w3 hb3).1; have c4 := (HCL.out w3 hb3).2.1; have c5 := (HCL.out w3 hb3).2.2)
              go_roundw
              case rel => exact ⟨f, pt t m, o2.set m true, pre ++ [(m : Int)], rfl, hl2, by have := HNG.out; omega, by simp [hol2], by have := HNG.out; simp; omega, HM2, ⟨TS.trans (hb3.mono (by omega)), BS.low hb3 hzo, YS.low hb3 hzo, AS.low hb3 hzw⟩, grown_lowA GO hb3 (Nat.le_refl _), hF3, Nat.le_trans hzS hb3.size⟩
              case measure =>
                have h5 := hF3.len
                have := HNG.out
                rw [h5]
                simp only [lenOf, List.length_append, List.length_cons, List.length_nil]
                omega
            · rw [hy] at cm1
              have hny : ¬ o2.getD m true = false := by rw [hy]; simp
              have hE : pre = all := by have h := HM.out.2; rw [(cyB_no hny).1, List.append_nil] at h; exact h
              have hO : o2 = mkB t (N + 1) k o := by rw [← HM.out.1, (cyB_no hny).2]
              clear hy hny
              have HSU2 : Hid ((cyQ t N (k + 1)).1 = o2 ∧ (cyQ t N (k + 1)).2 = css ++ [pre]) := Lib.hid (by rw [HSU.out, if_pos HX0.out, hO, HA.out, hE]; exact ⟨rfl, rfl⟩)
              clear hE hO
              go_wp2_with (at_builtin; refine appSST rfl _ _ rfl (w.heap.size + 1) gF wo wr (.slice adc css.length capc) css (.slice adp pre.length capp) pre rfl HS.out hgw HC.out.typ (weakRowA hF hzw) (fun g hg => (World.ownsRow.lt hF g hg).1) rfl wr.heap.size rfl rfl (by omega) (by omega) ?_; intro v' w' hG2 hb2 hg2)
              go_roundw
              case rel => exact ⟨k + 1, by omega, by go_num, by rw [HSU2.out.1]; exact ⟨hC2.below.trans (hb2.mono (by omega)), hC2.box.grown hg2 (HS.out.notB HC.out.typ), hC2.typ.grown hg2 (HS.out.notB HC.out.typ), hC2.arg.low hb2 (by omega)⟩, by rw [HSU2.out.2]; exact hG2⟩
              case measure => simp [intOf]; omega
        · rw [hx0] at ck1
          have HSU2 : Hid (cyQ t N (k + 1) = cyQ t N k) := Lib.hid (by rw [HSU.out, if_neg (by rw [hx0]; simp)])
          clear hx0
          go_wp2
          go_roundw
          case rel => exact ⟨k + 1, by omega, by go_num, by rw [HSU2.out, HO.out.1]; exact hC, by rw [HSU2.out, HO.out.2]; exact hS⟩
          case measure => simp [intOf]; omega
      · obtain rfl : k = N := by omega
        go_wp2
        go_ret
        exact ⟨_, rfl, by rw [HO.out.2]; exact hS.weakA (by omega), hC.below⟩
end Go.Proofs.Ytfchfakkbdfajaa
