/- Cycles of a permutation: the program's list. -/
import Derived.Test.YtfchfakkbdfajaaAcK
import Derived.Test.YtfchfakkbdfajaaSS
import Derived.Test.YtfchfakkbdfajaaMS
namespace Go.Proofs.Ytfchfakkbdfajaa
open Go.ChangeShapes Go.WideShapes Go.ChangeAt Go.RowKit

theorem kept_lowA {w w' : World} {L : Nat} {t : TypeId} {v : Value} {n : Nat} {xs : List Value} {row : Option Nat} (h : w.ownsRow L t 1 v n xs) (hg : w.grownBy w' row) (hr : ∀ r, row = some r → r < L) : w'.ownsRow L t 1 v n xs := by
  refine World.ownsRow.kept h hg ?_
  rcases e : v.ownBlock with _ | k
  · exact .inl rfl
  · exact .inr fun he => by have := hr k he.symm; have := (h.lt k e).1; omega
theorem snocA {wo w w' : World} {L gm : Nat} {v v' r : Value} {xss : List (List Int)} {xs : List Int} {vs : List Value} (hG : GrV wo L v vs xss) (hw : wo.grownBy w (some gm)) (hm : gm < L) (hr : Gr w L r xs)
    (hrb : ∀ k, r.ownBlock = some k → wo.heap.size ≤ k) (hown : w'.ownsRow L 22 1 v' (vs.length + 1) (vs ++ [r])) (hgr : w.grownBy w' v.ownBlock) : GrSS w' L v' (xss ++ [xs]) := by
  have hlow : ∀ r, (some gm : Option Nat) = some r → r < L := fun r e => by injection e with e; omega
  have hG' : GrV w L v vs xss := ⟨kept_lowA hG.1 hw hlow, hG.2.1, fun i hi => kept_lowA (hG.2.2.1 i hi) hw hlow, hG.2.2.2⟩
  obtain ⟨h1, h2, h3, h4⟩ := hG
  obtain ⟨h1w, _, h3w, _⟩ := hG'
  refine ⟨vs ++ [r], ?_, by simp [h2], fun i hi => ?_, fun i j hij hj g hg => ?_⟩
  · rw [List.length_append]; exact hown
  · simp only [List.length_append, List.length_cons, List.length_nil] at hi
    by_cases e : i < xss.length
    · have e1 : (vs ++ [r]).getD i rowZ = vs.getD i rowZ := by simp [List.getD, List.getElem?_append_left (show i < vs.length by omega)]
      have e2 : (xss ++ [xs]).getD i [] = xss.getD i [] := by simp [List.getD, List.getElem?_append_left e]
      rw [e1, e2]
      exact kept_apart (Ne.symm types_ss) (h3w i e) h1w hgr
    · obtain rfl : i = xss.length := by omega
      have e1 : (vs ++ [r]).getD xss.length rowZ = r := by simp [List.getD, ← h2]
      have e2 : (xss ++ [xs]).getD xss.length [] = xs := by simp [List.getD]
      rw [e1, e2]
      exact kept_apart (Ne.symm types_ss) hr h1w hgr
  · simp only [List.length_append, List.length_cons, List.length_nil] at hj
    have e1 : (vs ++ [r]).getD i rowZ = vs.getD i rowZ := by simp [List.getD, List.getElem?_append_left (show i < vs.length by omega)]
    rw [e1] at hg
    by_cases e : j < xss.length
    · have e2 : (vs ++ [r]).getD j rowZ = vs.getD j rowZ := by simp [List.getD, List.getElem?_append_left (show j < vs.length by omega)]
      rw [e2]
      exact h4 i j hij e g hg
    · obtain rfl : j = xss.length := by omega
      have e2 : (vs ++ [r]).getD xss.length rowZ = r := by simp [List.getD, ← h2]
      rw [e2]
      intro he
      have a := hrb g he
      have b := ((h3 i (by omega)).lt g hg).2
      omega
/-- 'xss = append(xss, row)', where a block below the rows has turned since the row was begun. -/
theorem appSSA {ops : Array Oper} {rest : List Oper} {o : Oper} {a : Act} {Q : Exit → Act → World → Prop} (hgd : o.guard = none) (s x : Operand)
    (ho : o.op = .call { callee := .builtin .append, args := #[s, x], argTypes := #[31, 31] })
    (L gm : Nat) (wo w : World) (v : Value) (xss : List (List Int)) (r : Value) (xs : List Int) (hs : a.eval s = v) (hown : GrSS wo L v xss) (hw : wo.grownBy w (some gm)) (hm : gm < L) (hr : Gr w L r xs) (hrb : ∀ k, r.ownBlock = some k → wo.heap.size ≤ k)
    (h1c : r.oneCell' = true) (g : Nat) (hx : a.eval x = .slice (some ⟨g, 0, none⟩) 1 1) (hg : w.heap.size = g) (hlen : xss.length ≤ 1000000) (hL : L ≤ w.heap.size)
    (h : ∀ v' w', GrSS w' L v' (xss ++ [xs]) → Below L w w' → wpList Try.prog ops Q rest (a.put o.dst v') w') : wpList Try.prog ops Q (o :: rest) a (w.alloc (.cells #[r] 22)) := by
  obtain ⟨i0, hi, hz0, hz1, hz2⟩ := info_parts info_row
  subst hg
  obtain ⟨vs, hV⟩ := hown
  have hvl : vs.length = xss.length := hV.2.1
  have hwn : wo.grownBy (w.alloc (.cells #[r] 22)) (some gm) := World.grownBy.trans hw ⟨rfl, rfl, rfl, by simp, fun k hk _ => Below.heap_alloc _ _ _ hk⟩
  have hlow : ∀ r, (some gm : Option Nat) = some r → r < L := fun r e => by injection e with e; omega
  refine wpList_append_own _ hgd s x 31 ho L 22 i0 (.slice none 0 0) 1 24 Try.underlying31 hi hz0 hz1 hz2 rfl (by decide) v vs.length _ hs (kept_lowA hV.1 hwn hlow) ⟨w.heap.size, 0, none⟩ 1 1 [r] hx rfl ?_ ?_ ?_ ?_ ?_ ?_
  · intro j u hj
    match j, hj with
    | 0, hj => simp at hj; subst hj; simp [Addr.add]
  · intro u hu; simp at hu; subst hu; exact h1c
  · unfold maxLen; omega
  · omega
  · simp; omega
  · intro v' w' hown' hgrow _
    refine h v' w' (snocA hV hwn hm (Gr.alloc hr _) hrb hown' hgrow) ?_
    have hb : Below L w (w.alloc (.cells #[r] 22)) := (Below.refl L w).alloc hL _
    exact hb.grown hgrow (by simp; omega) (fun j hj => (hV.1.lt j hj).1)
theorem grown_lowA {a b c : World} {B : Nat} {row : Option Nat} (h : a.grownBy b row) (hb : Below B b c) (hB : a.heap.size ≤ B) : a.grownBy c row :=
  ⟨hb.os.trans h.1, hb.tape.trans h.2, hb.output.trans h.3, Nat.le_trans h.4 hb.size, fun k hk hn => (hb.block k (by omega)).trans (h.5 k hk hn)⟩
theorem GrSS.keptA {w w' : World} {L : Nat} {v : Value} {xss : List (List Int)} {row : Option Nat} (h : GrSS w L v xss) (hg : w.grownBy w' row) (hr : ∀ r, row = some r → r < L) : GrSS w' L v xss := by
  obtain ⟨vs, h1, h2, h3, h4⟩ := h
  exact ⟨vs, kept_lowA h1 hg hr, h2, fun i hi => kept_lowA (h3 i hi) hg hr, h4⟩
theorem weakRowA {w : World} {L L' : Nat} {t : TypeId} {v : Value} {n : Nat} {xs : List Value} (h : w.ownsRow L t 1 v n xs) (hL : L' ≤ L) : w.ownsRow L' t 1 v n xs := by
  obtain ⟨hl, hc⟩ := h
  refine ⟨hl, ?_⟩
  obtain hc | ⟨g, cap, cur, h1, h2, h3⟩ := hc
  · exact .inl hc
  · exact .inr ⟨g, cap, cur, h1, Nat.le_trans hL h2, h3⟩
theorem GrSS.weakA {w : World} {L L' : Nat} {v : Value} {xss : List (List Int)} (h : GrSS w L v xss) (hL : L' ≤ L) : GrSS w L' v xss := by
  obtain ⟨vs, h1, h2, h3, h4⟩ := h
  exact ⟨vs, weakRowA h1 hL, h2, fun i hi => weakRowA (h3 i hi) hL, h4⟩
theorem grownSetA (w : World) (p : Addr) (u : Value) : w.grownBy (w.setCell p u) (some p.block) :=
  ⟨rfl, rfl, rfl, by simp [World.setCell], fun k _ hk => Below.heap_setCell w p u k (fun e => hk (by rw [e]))⟩
theorem cyB_pos {t : List Int} {f j : Nat} {m : List Bool} (h : m.getD j true = false) : 0 < (cyB t (f + 1) j m).length := by rw [(cyB_yes h).1]; simp
/-- what the cycles' walk keeps -/
structure CKA (w wM : World) (gm : Nat) (wr : World) (o : List Bool) : Prop where
  below : Below w.heap.size w wr
  since : wM.grownBy wr (some gm)
  box : Box wr gm (o.map Value.bool)
set_option maxRecDepth 100000 in
set_option maxHeartbeats 4000000 in
theorem cyclesA_is (t : List Int) (N : Nat) (hNb : N ≤ 1000) (hN0 : 0 < N) (ht : Pm t N) (v : Value) (w : World) (hr : Rl w v t) :
    Calls Try.prog 44 #[v] w fun e w' => ∃ v', e = .returned v' ∧ GrSS w' w.heap.size v' (cyQ t N N).2 ∧ Below w.heap.size w w' := by
  obtain ⟨gl, capl, rfl, hcl⟩ := hr.at (by rw [ht.len]; exact hN0)
  rw [ht.len] at *
  have hgl := hcl.1
  have HG := Lib.hid hcl
  have HT := Lib.hid ht
  have hmk := mkBools N (by omega)
  have BM : Box (w.alloc (.cells (Array.replicate N (Value.bool false)) 4)) w.heap.size ((cyQ t N 0).1.map Value.bool) := boxBools rfl N
  have TM := own_alloc (own_refl w) (.cells (Array.replicate N (Value.bool false)) 4)
  have hzM : (w.alloc (.cells (Array.replicate N (Value.bool false)) 4)).heap.size = w.heap.size + 1 := by simp
  clear hr hcl ht
  go_enter Try.func44, Try.ntmps44
  go_wp2
  generalize w.alloc (.cells (Array.replicate N (Value.bool false)) 4) = wM at *
  go_loopw [3, 13] (fun v x wr => ∃ k : Nat, k ≤ N ∧ x = (.int .i64 ((k : Int))) ∧ CKA w wM w.heap.size wr (cyQ t N k).1 ∧ GrSS wr (w.heap.size + 1) v (cyQ t N k).2) (fun _ x _ => N - (intOf x).toNat)
  case atStart => exact ⟨0, Nat.zero_le _, rfl, ⟨TM, World.grownBy.refl _ _, BM⟩, GrSS.nil _ _⟩
  case round =>
    obtain ⟨k, hk, rfl, hC, hS⟩ := hrel
    have hcu := cyQ_len t N k
    have HSU : Hid (cyQ t N (k + 1) = if (cyQ t N k).1.getD k true = false then (mkB t (N + 1) k (cyQ t N k).1, (cyQ t N k).2 ++ [cyB t (N + 1) k (cyQ t N k).1]) else cyQ t N k) := Lib.hid rfl
    obtain ⟨o, ho⟩ : ∃ o, (cyQ t N k).1 = o := ⟨_, rfl⟩
    obtain ⟨css, hcss⟩ : ∃ css, (cyQ t N k).2 = css := ⟨_, rfl⟩
    have HO := Lib.hid (And.intro ho hcss)
    rw [ho] at hC hcu HSU
    rw [hcss] at hS hcu HSU
    clear ho hcss
    obtain ⟨hol, hclen⟩ := hcu
    obtain ⟨adc, capc, hv⟩ := hS.shape
    subst hv
    by_cases hlt : k < N
    · obtain ⟨all, hall⟩ : ∃ all, cyB t (N + 1) k o = all := ⟨_, rfl⟩
      have HA := Lib.hid hall
      have HC := Lib.hid hC
      have HS := Lib.hid hS
      have hzr := hC.below.size
      have hzo : w.heap.size < wr.heap.size := hC.box.1
      clear hS hC
      go_wp2
      generalize wr = wo at *
      go_loopw [6, 7] (fun c a wr => ∃ (f m : Nat) (o2 : List Bool) (pre : List Int), a = (.int .i64 ((m : Int))) ∧ m < N ∧ offs o2 < f ∧ o2.length = N ∧ pre.length + offs o2 ≤ N ∧
          Hid (mkB t f m o2 = mkB t (N + 1) k o ∧ pre ++ cyB t f m o2 = all) ∧ CKA w wM w.heap.size wr o2 ∧ wo.grownBy wr (some w.heap.size) ∧ Gr wr wo.heap.size c pre ∧ wo.heap.size ≤ wr.heap.size) (fun c _ _ => N - lenOf c)
      case atStart =>
        refine ⟨N + 1, k, o, [], rfl, hlt, by have := offs_le o; omega, hol, by have := offs_le o; simp; omega, Lib.hid ⟨rfl, by simpa using HA.out⟩, HC.out, World.grownBy.refl _ _, Gr.nil _ _, Nat.le_refl _⟩
      case round =>
        obtain ⟨f, m, o2, pre, rfl, hm, hf, hol2, hpn, HM, hC2, hgw, hF, hzz⟩ := hrel
        obtain ⟨ck1, ck2⟩ := hC2.box.2 m _ (bools_at (by omega) true)
        obtain ⟨adp, capp, hv⟩ := hF.shape
        subst hv
        rcases hy : o2.getD m true with _ | _
        · rw [hy] at ck1
          obtain ⟨f, rfl⟩ : ∃ f', f = f' + 1 := ⟨f - 1, by omega⟩
          have HNG := Lib.hid (offs_set hy)
          have HM2 : Hid (mkB t f (pt t m) (o2.set m true) = mkB t (N + 1) k o ∧ (pre ++ [(m : Int)]) ++ cyB t f (pt t m) (o2.set m true) = all) := Lib.hid ⟨by rw [← HM.out.1, (cyB_yes hy).2], by rw [← HM.out.2, (cyB_yes hy).1, List.append_assoc]; rfl⟩
          obtain ⟨hl1, hl2⟩ := HT.out.at hm
          have BS : Box (wr.setCell ⟨w.heap.size, m, none⟩ (.bool true)) w.heap.size ((o2.set m true).map Value.bool) := by
            rw [bools_set]
            exact hC2.box.set m (by simp; omega) _
          have TS := own_setCell hC2.below (p := ⟨w.heap.size, m, none⟩) (Nat.le_refl _) (.bool true)
          have GS : wM.grownBy (wr.setCell ⟨w.heap.size, m, none⟩ (.bool true)) (some w.heap.size) := hC2.since.trans (grownSetA _ _ _)
          have GO : wo.grownBy (wr.setCell ⟨w.heap.size, m, none⟩ (.bool true)) (some w.heap.size) := hgw.trans (grownSetA _ _ _)
          have hFS : Gr (wr.setCell ⟨w.heap.size, m, none⟩ (.bool true)) wo.heap.size (.slice adp pre.length capp) pre := hF.set (by dsimp only; omega) _
          have hzS : wo.heap.size ≤ (wr.setCell ⟨w.heap.size, m, none⟩ (.bool true)).heap.size := by simpa [World.setCell] using hzz
          clear hy
          have hzw := HC.out.since.4
          have hcl3 : ∀ w3, Below wo.heap.size (wr.setCell ⟨w.heap.size, m, none⟩ (.bool true)) w3 → w3.cell? ⟨gl, m, none⟩ = some (.int .i64 ((pt t m : Int))) := fun w3 hb3 => by
            have c0 := HG.out.2 m (by rw [HT.out.len]; exact hm)
            rw [hl1] at c0
            exact ((hb3.cell (p := ⟨gl, m, none⟩) (by show gl < _; omega)).trans (TS.cell (p := ⟨gl, m, none⟩) hgl)).trans c0
          have HCL := Lib.hid hcl3
          clear hcl3 hl1
          go_wp2_with (at_builtin; refine app64 rfl _ _ rfl wo.heap.size (wr.setCell ⟨w.heap.size, m, none⟩ (.bool true)) (.slice adp pre.length capp) pre (m : Int) rfl hFS wr.heap.size rfl (by simp [World.setCell]) (by omega) (by omega) ?_; intro v' w3 hF3 hb3; have c3 := HCL.out w3 hb3)
          go_roundw
          case rel => exact ⟨f, pt t m, o2.set m true, pre ++ [(m : Int)], rfl, hl2, by have := HNG.out; omega, by simp [hol2], by have := HNG.out; simp; omega, HM2, ⟨TS.trans (hb3.mono hzr), grown_lowA GS hb3 hzw, BS.low hb3 hzo⟩, grown_lowA GO hb3 (Nat.le_refl _), hF3, Nat.le_trans hzS hb3.size⟩
          case measure =>
            have h5 := hF3.len
            have := HNG.out
            rw [h5]
            simp only [lenOf, List.length_append, List.length_cons, List.length_nil]
            omega
        · rw [hy] at ck1
          have hny : ¬ o2.getD m true = false := by rw [hy]; simp
          have hE : pre = all := by have h := HM.out.2; rw [(cyB_no hny).1, List.append_nil] at h; exact h
          have hO : o2 = mkB t (N + 1) k o := by rw [← HM.out.1, (cyB_no hny).2]
          clear hy hny
          by_cases hx0 : o.getD k true = false
          · have hap : 0 < all.length := by rw [← HA.out]; exact cyB_pos hx0
            have HSU2 : Hid ((cyQ t N (k + 1)).1 = o2 ∧ (cyQ t N (k + 1)).2 = css ++ [pre]) := Lib.hid (by rw [HSU.out, if_pos hx0, hO, HA.out, hE]; exact ⟨rfl, rfl⟩)
            rw [← hE] at hap
            clear hE hO hx0
            go_wp2_with (at_builtin; refine appSSA rfl _ _ rfl (w.heap.size + 1) w.heap.size wo wr (.slice adc css.length capc) css (.slice adp pre.length capp) pre rfl HS.out hgw (by omega) (weakRowA hF hzo) (fun g hg => (World.ownsRow.lt hF g hg).1) rfl wr.heap.size rfl rfl (by omega) (by omega) ?_; intro v' w' hG2 hb2)
            go_roundw
            case rel => exact ⟨k + 1, by omega, by go_num, by rw [HSU2.out.1]; exact ⟨hC2.below.trans (hb2.mono (by omega)), grown_lowA hC2.since hb2 (by omega), hC2.box.low hb2 (by omega)⟩, by rw [HSU2.out.2]; exact hG2⟩
            case measure => simp [intOf]; omega
          · have hae : all = [] := by rw [← HA.out]; exact (cyB_no hx0).1
            have HSU2 : Hid (cyQ t N (k + 1) = cyQ t N k) := Lib.hid (by rw [HSU.out, if_neg hx0])
            have hoo : Hid (o2 = o) := Lib.hid (by rw [hO, (cyB_no hx0).2])
            have hpe : pre = [] := hE.trans hae
            subst hpe
            clear hE hO hx0 hae
            simp only [List.length_nil]
            have HS2 := HS.out.keptA hgw (fun r e => by injection e with e; omega)
            go_wp2
            go_roundw
            case rel => exact ⟨k + 1, by omega, by go_num, by rw [HSU2.out, HO.out.1, ← hoo.out]; exact hC2, by rw [HSU2.out, HO.out.2]; exact HS2⟩
            case measure => simp [intOf]; omega
    · obtain rfl : k = N := by omega
      go_wp2
      go_ret
      exact ⟨_, rfl, by rw [HO.out.2]; exact hS.weakA (by omega), hC.below⟩
end Go.Proofs.Ytfchfakkbdfajaa
