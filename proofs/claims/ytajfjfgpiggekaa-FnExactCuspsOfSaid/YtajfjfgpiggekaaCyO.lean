/- impl.cyclesOf at the numbers that T leads cosets to. -/
import Derived.Test.YtajfjfgpiggekaaCuP
import Derived.Test.YtajfjfgpiggekaaDrw
namespace Go.Proofs.Ytajfjfgpiggekaa
open Go.ChangeShapes Go.WideShapes Go.ChangeAt Go.RowKit

theorem info_boolC : (Try.prog.info? 4).map (fun i => (i.zero, i.size, i.bytes)) = some (some (.bool false), 1, 1) := by kernel_rfl
theorem madeB (n : Nat) (hn : n ≤ 1048576) (w : World) : (Instr.makeSlice 85 (.int .i64 n) (.int .i64 n)).run Try.prog w =
    .ok (.slice (some ⟨w.heap.size, 0, none⟩) n n) (w.alloc (.cells (Array.replicate n (Value.bool false)) 4)) := by
  obtain ⟨i0, hi, hz0, hz1, hz2⟩ := info_parts info_boolC
  have h := run_make (P := Try.prog) (w := w) 85 4 i0 (.bool false) Try.underlying85 hi hz0 .i64 .i64 n n (by omega) (Int.le_refl _) (by rw [hz2]; omega) (by omega)
  rw [h, hz1]
  have e : madeCells (Value.bool false).cells ((n : Int).toNat * 1) = Array.replicate n (Value.bool false) := by
    apply Array.ext
    · simp [size_madeCells]
    · intro i h1 h2
      simp [madeCells, Value.cells, Nat.mod_one]
  rw [e]
  simp
/-- which numbers are met -/
def metL (o : List Int) : List Value := o.map fun x => .bool (decide (0 ≤ x))
theorem metL_at {o : List Int} {i : Nat} (hi : i < o.length) : (metL o)[i]? = some (.bool (decide (0 ≤ o.getD i 0))) := by
  simp [metL, List.getD, List.getElem?_eq_getElem hi]
theorem metL_set {o : List Int} {j : Nat} {c : Int} (hc : 0 ≤ c) : metL (o.set j c) = (metL o).set j (.bool true) := by
  simp [metL, List.map_set, hc]
theorem kept_low {w w' : World} {L : Nat} {t : TypeId} {v : Value} {n : Nat} {xs : List Value} {row : Option Nat} (h : w.ownsRow L t 1 v n xs) (hg : w.grownBy w' row) (hr : ∀ r, row = some r → r < L) : w'.ownsRow L t 1 v n xs := by
  refine World.ownsRow.kept h hg ?_
  rcases e : v.ownBlock with _ | k
  · exact .inl rfl
  · exact .inr fun he => by have := hr k he.symm; have := (h.lt k e).1; omega
/-- A row joins the rows, where a block below them has turned since. -/
theorem snocK {wo w w' : World} {L gm : Nat} {v v' r : Value} {xss : List (List Int)} {xs : List Int} {vs : List Value} (hG : GrV wo L v vs xss) (hw : wo.grownBy w (some gm)) (hm : gm < L) (hr : Gr w L r xs)
    (hrb : ∀ k, r.ownBlock = some k → wo.heap.size ≤ k) (hown : w'.ownsRow L 37 1 v' (vs.length + 1) (vs ++ [r])) (hgr : w.grownBy w' v.ownBlock) : GrSS w' L v' (xss ++ [xs]) := by
  have hlow : ∀ r, (some gm : Option Nat) = some r → r < L := fun r e => by injection e with e; omega
  have hG' : GrV w L v vs xss := ⟨kept_low hG.1 hw hlow, hG.2.1, fun i hi => kept_low (hG.2.2.1 i hi) hw hlow, hG.2.2.2⟩
  obtain ⟨h1, h2, h3, h4⟩ := hG
  obtain ⟨h1w, _, h3w, _⟩ := hG'
  refine ⟨vs ++ [r], ?_, by simp [h2], fun i hi => ?_, fun i j hij hj g hg => ?_⟩
  · rw [List.length_append]; exact hown
  · simp only [List.length_append, List.length_cons, List.length_nil] at hi
    by_cases e : i < xss.length
    · have e1 : (vs ++ [r]).getD i rowZ = vs.getD i rowZ := by simp [List.getD, List.getElem?_append_left (show i < vs.length by omega)]
      have e2 : (xss ++ [xs]).getD i [] = xss.getD i [] := by simp [List.getD, List.getElem?_append_left e]
      rw [e1, e2]
      exact kept_apart (Ne.symm types_ss) (h3w i e) h1w hgr
    · obtain rfl : i = xss.length := by omega
      have e1 : (vs ++ [r]).getD xss.length rowZ = r := by simp [List.getD, ← h2]
      have e2 : (xss ++ [xs]).getD xss.length [] = xs := by simp [List.getD]
      rw [e1, e2]
      exact kept_apart (Ne.symm types_ss) hr h1w hgr
  · simp only [List.length_append, List.length_cons, List.length_nil] at hj
    have e1 : (vs ++ [r]).getD i rowZ = vs.getD i rowZ := by simp [List.getD, List.getElem?_append_left (show i < vs.length by omega)]
    rw [e1] at hg
    by_cases e : j < xss.length
    · have e2 : (vs ++ [r]).getD j rowZ = vs.getD j rowZ := by simp [List.getD, List.getElem?_append_left (show j < vs.length by omega)]
      rw [e2]
      exact h4 i j hij e g hg
    · obtain rfl : j = xss.length := by omega
      have e2 : (vs ++ [r]).getD xss.length rowZ = r := by simp [List.getD, ← h2]
      rw [e2]
      intro he
      have a := hrb g he
      have b := ((h3 i (by omega)).lt g hg).2
      omega
/-- 'xss = append(xss, row)', where a block below the rows has turned since the row was begun. -/
theorem appSSK {ops : Array Oper} {rest : List Oper} {o : Oper} {a : Act} {Q : Exit → Act → World → Prop} (hgd : o.guard = none) (s x : Operand)
    (ho : o.op = .call { callee := .builtin .append, args := #[s, x], argTypes := #[49, 49] })
    (L gm : Nat) (wo w : World) (v : Value) (xss : List (List Int)) (r : Value) (xs : List Int) (hs : a.eval s = v) (hown : GrSS wo L v xss) (hw : wo.grownBy w (some gm)) (hm : gm < L) (hr : Gr w L r xs) (hrb : ∀ k, r.ownBlock = some k → wo.heap.size ≤ k)
    (h1c : r.oneCell' = true) (g : Nat) (hx : a.eval x = .slice (some ⟨g, 0, none⟩) 1 1) (hg : w.heap.size = g) (hlen : xss.length ≤ 1000000) (hL : L ≤ w.heap.size)
    (h : ∀ v' w', GrSS w' L v' (xss ++ [xs]) → Below L w w' → wpList Try.prog ops Q rest (a.put o.dst v') w') : wpList Try.prog ops Q (o :: rest) a (w.alloc (.cells #[r] 37)) := by
  obtain ⟨i0, hi, hz0, hz1, hz2⟩ := info_parts info_row
  subst hg
  obtain ⟨vs, hV⟩ := hown
  have hvl : vs.length = xss.length := hV.2.1
  have hwn : wo.grownBy (w.alloc (.cells #[r] 37)) (some gm) := World.grownBy.trans hw ⟨rfl, rfl, rfl, by simp, fun k hk _ => Below.heap_alloc _ _ _ hk⟩
  have hlow : ∀ r, (some gm : Option Nat) = some r → r < L := fun r e => by injection e with e; omega
  refine wpList_append_own _ hgd s x 49 ho L 37 i0 (.slice none 0 0) 1 24 Try.underlying49 hi hz0 hz1 hz2 rfl (by decide) v vs.length _ hs (kept_low hV.1 hwn hlow) ⟨w.heap.size, 0, none⟩ 1 1 [r] hx rfl ?_ ?_ ?_ ?_ ?_ ?_
  · intro j u hj
    match j, hj with
    | 0, hj => simp at hj; subst hj; simp [Addr.add]
  · intro u hu; simp at hu; subst hu; exact h1c
  · unfold maxLen; omega
  · omega
  · simp; omega
  · intro v' w' hown' hgrow _
    refine h v' w' (snocK hV hwn hm (Gr.alloc hr _) hrb hown' hgrow) ?_
    have hb : Below L w (w.alloc (.cells #[r] 37)) := (Below.refl L w).alloc hL _
    exact hb.grown hgrow (by simp; omega) (fun j hj => (hV.1.lt j hj).1)
theorem cyL_snoc {n s : Int} {f m : Nat} {o : List Int} {pre all : List Int} (h : o.getD m 0 < 0) (e : pre ++ cyL n s (f + 1) m o = all) : (pre ++ [(m : Int)]) ++ cyL n s f (nxT n m) (o.set m s) = all := by
  rw [← e, cyL_yes h, List.append_assoc]
  rfl
theorem cyL_done {n s : Int} {f m : Nat} {o : List Int} {pre all : List Int} (h : ¬ o.getD m 0 < 0) (e : pre ++ cyL n s f m o = all) : pre = all := by
  rw [← e, cyL_no h, List.append_nil]
/-- what an own list of numbers leads to, as the program's list has it -/
def nxL (n : Int) (ld : List Int) (N : Nat) : Prop := ld.length = N ∧ ∀ i : Nat, i < N → ld.getD i 0 = (nxT n i : Int) ∧ nxT n i < N
/-- what the cycles' walk keeps -/
structure CK (w wM : World) (gm : Nat) (wr : World) (o : List Int) : Prop where
  below : Below w.heap.size w wr
  since : wM.grownBy wr (some gm)
  box : Box wr gm (metL o)
theorem grown_low {a b c : World} {B : Nat} {row : Option Nat} (h : a.grownBy b row) (hb : Below B b c) (hB : a.heap.size ≤ B) : a.grownBy c row :=
  ⟨hb.os.trans h.1, hb.tape.trans h.2, hb.output.trans h.3, Nat.le_trans h.4 hb.size, fun k hk hn => (hb.block k (by omega)).trans (h.5 k hk hn)⟩
theorem cyL_pos {n s : Int} {f m : Nat} {o : List Int} (h : o.getD m 0 < 0) : 0 < (cyL n s (f + 1) m o).length := by rw [cyL_yes h]; simp
set_option maxRecDepth 100000 in
set_option maxHeartbeats 4000000 in
theorem cyclesOf_is (n : Int) (N : Nat) (hN : (ln n).length = N) (hNb : N ≤ 3600) (hN0 : 0 < N) (ld : List Int) (hld : nxL n ld N) (v : Value) (L : Nat) (w : World) (hG : Gr w L v ld) :
    Calls Try.prog 71 #[v] w fun e w' => ∃ v', e = .returned v' ∧ GrSS w' w.heap.size v' (cys n N) ∧ Below w.heap.size w w' := by
  obtain ⟨ad, cap, hv⟩ := hG.shape
  subst hv
  rw [hld.1] at hG ⊢
  obtain ⟨gl, rfl, _, hgl, _⟩ := hG.cellsZ hN0
  have HG := Lib.hid hG
  have HLD := Lib.hid hld
  have HN := Lib.hid hN
  have hmk := fun w => madeB N (by omega) w
  have BM : Box (w.alloc (.cells (Array.replicate N (Value.bool false)) 4)) w.heap.size (metL (cus n 0).1) := by
    have e : metL (cus n 0).1 = List.replicate N (Value.bool false) := by simp [metL, cus, hN]
    have e2 : Array.replicate N (Value.bool false) = (List.replicate N (Value.bool false)).toArray := by simp
    rw [e, e2]
    exact Box.new _ _ _
  have TM := own_alloc (own_refl w) (.cells (Array.replicate N (Value.bool false)) 4)
  have hzM : (w.alloc (.cells (Array.replicate N (Value.bool false)) 4)).heap.size = w.heap.size + 1 := by simp
  clear hG hld hN
  go_enter Try.func71, Try.ntmps71
  go_wp2
  generalize w.alloc (.cells (Array.replicate N (Value.bool false)) 4) = wM at *
  go_loopw [3, 13] (fun v x wr => ∃ k : Nat, k ≤ N ∧ x = (.int .i64 ((k : Int))) ∧ CK w wM w.heap.size wr (cus n k).1 ∧ GrSS wr (w.heap.size + 1) v (cys n k)) (fun _ x _ => N - (intOf x).toNat)
  case atStart => exact ⟨0, Nat.zero_le _, rfl, ⟨TM, World.grownBy.refl _ _, BM⟩, GrSS.nil _ _⟩
  case round =>
    obtain ⟨k, hk, rfl, hC, hS⟩ := hrel
    have hcu := cus_len n k
    rw [HN.out] at hcu
    have HSU : Hid (cus n (k + 1) = if (cus n k).1.getD k 0 < 0 then (mrk n (cus n k).2 (N + 1) k (cus n k).1, (cus n k).2 + 1) else cus n k) := Lib.hid (by rw [cus, HN.out])
    have HCY : Hid (cys n (k + 1) = if (cus n k).1.getD k 0 < 0 then cys n k ++ [cyL n (cus n k).2 (N + 1) k (cus n k).1] else cys n k) := Lib.hid (by rw [cys, HN.out])
    obtain ⟨o, ho⟩ : ∃ o, (cus n k).1 = o := ⟨_, rfl⟩
    obtain ⟨s, hs⟩ : ∃ s, (cus n k).2 = s := ⟨_, rfl⟩
    obtain ⟨css, hcss⟩ : ∃ css, cys n k = css := ⟨_, rfl⟩
    have hcl : css.length ≤ 3600 := by
      have : ∀ k, (cys n k).length ≤ k := fun k => by
        induction k with
        | zero => simp [cys]
        | succ k ih =>
          rw [cys]
          split
          · rw [List.length_append]; simp; omega
          · omega
      have := this k
      rw [hcss] at this
      omega
    have HO := Lib.hid (And.intro ho (And.intro hs hcss))
    rw [ho] at hC hcu HSU HCY
    rw [hs] at hcu HSU HCY
    rw [hcss] at hS HCY
    clear ho hs hcss
    obtain ⟨hol, hsl⟩ := hcu
    obtain ⟨adc, capc, hv⟩ := hS.shape
    subst hv
    by_cases hlt : k < N
    · obtain ⟨q, hq⟩ : ∃ q : Int, (k : Int) = q := ⟨_, rfl⟩
      have HQ := Lib.hid hq
      have hq1 : 0 ≤ q ∧ q < (N : Int) := by omega
      have hqn : q.toNat = k := by omega
      obtain ⟨_, _⟩ := hq1
      obtain ⟨all, hall⟩ : ∃ all, cyL n s (N + 1) k o = all := ⟨_, rfl⟩
      have HA := Lib.hid hall
      have HC := Lib.hid hC
      have HS := Lib.hid hS
      rw [hq]
      have hzr := hC.below.size
      have hzo : w.heap.size < wr.heap.size := hC.box.1
      clear hq hS hC hqn
      go_wp2
      generalize wr = wo at *
      go_loopw [6, 7] (fun c a wr => ∃ (f m : Nat) (o2 pre : List Int), a = (.int .i64 ((m : Int))) ∧ m < N ∧ negs o2 < f ∧ o2.length = N ∧ pre.length + negs o2 ≤ N ∧
          Hid (mrk n s f m o2 = mrk n s (N + 1) k o ∧ pre ++ cyL n s f m o2 = all) ∧ CK w wM w.heap.size wr o2 ∧ wo.grownBy wr (some w.heap.size) ∧ Gr wr wo.heap.size c pre ∧ wo.heap.size ≤ wr.heap.size) (fun c _ _ => N - lenOf c)
      case atStart =>
        refine ⟨N + 1, k, o, [], by rw [HQ.out], hlt, by have := negs_le o; omega, hol, by have := negs_le o; simp; omega, Lib.hid ⟨rfl, by simpa using HA.out⟩, HC.out, World.grownBy.refl _ _, Gr.nil _ _, Nat.le_refl _⟩
      case round =>
        obtain ⟨f, m, o2, pre, rfl, hm, hf, hol2, hpn, HM, hC2, hgw, hF, hzz⟩ := hrel
        obtain ⟨y, hy⟩ : ∃ y, o2.getD m 0 = y := ⟨_, rfl⟩
        have ck := (hC2.box.2 m _ (metL_at (by omega)))
        rw [hy] at ck
        obtain ⟨ck1, ck2⟩ := ck
        obtain ⟨adp, capp, hv⟩ := hF.shape
        subst hv
        by_cases hy0 : y < 0
        · obtain ⟨f, rfl⟩ : ∃ f', f = f' + 1 := ⟨f - 1, by omega⟩
          have hneg : o2.getD m 0 < 0 := by rw [hy]; exact hy0
          have HNG := Lib.hid (negs_set (o := o2) (j := m) (c := (s : Int)) (by omega) hneg (by omega))
          have HM2 : Hid (mrk n s f (nxT n m) (o2.set m s) = mrk n s (N + 1) k o ∧ (pre ++ [(m : Int)]) ++ cyL n s f (nxT n m) (o2.set m s) = all) := Lib.hid ⟨by rw [← HM.out.1, mrk_yes hneg], cyL_snoc hneg HM.out.2⟩
          obtain ⟨hl1, hl2⟩ := HLD.out.2 m hm
          have e1 : decide (0 ≤ y) = false := decide_eq_false (by omega)
          rw [e1] at ck1
          have BS : Box (wr.setCell ⟨w.heap.size, m, none⟩ (.bool true)) w.heap.size (metL (o2.set m (s : Int))) := by
            rw [metL_set (by omega)]
            exact hC2.box.set m (by simp [metL]; omega) _
          have TS := own_setCell hC2.below (p := ⟨w.heap.size, m, none⟩) (Nat.le_refl _) (.bool true)
          have GS : wM.grownBy (wr.setCell ⟨w.heap.size, m, none⟩ (.bool true)) (some w.heap.size) := hC2.since.trans (grownBy_setZ _ _ _)
          have GO : wo.grownBy (wr.setCell ⟨w.heap.size, m, none⟩ (.bool true)) (some w.heap.size) := hgw.trans (grownBy_setZ _ _ _)
          have hFS : Gr (wr.setCell ⟨w.heap.size, m, none⟩ (.bool true)) wo.heap.size (.slice adp pre.length capp) pre := hF.set (by dsimp only; omega) _
          have hzS : wo.heap.size ≤ (wr.setCell ⟨w.heap.size, m, none⟩ (.bool true)).heap.size := by simpa [World.setCell] using hzz
          clear hy
          have hzw := HC.out.since.4
          have hcl3 : ∀ w3, Below wo.heap.size (wr.setCell ⟨w.heap.size, m, none⟩ (.bool true)) w3 → w3.cell? ⟨gl, m, none⟩ = some (.int .i64 ((nxT n m : Int))) := fun w3 hb3 => by
            obtain ⟨g', e', _, _, hc⟩ := HG.out.cellsZ hN0
            injection e' with e'
            injection e' with e'
            subst e'
            have c0 := (hc m hm).1
            rw [hl1] at c0
            exact ((hb3.cell (p := ⟨gl, m, none⟩) (by show gl < _; omega)).trans (TS.cell (p := ⟨gl, m, none⟩) hgl)).trans c0
          have HCL := Lib.hid hcl3
          clear hcl3 hl1
          go_wp2_with (at_builtin; refine app64 rfl _ _ rfl wo.heap.size (wr.setCell ⟨w.heap.size, m, none⟩ (.bool true)) (.slice adp pre.length capp) pre (m : Int) rfl hFS wr.heap.size rfl (by simp [World.setCell]) (by omega) (by omega) ?_; intro v' w3 hF3 hb3; have c3 := HCL.out w3 hb3)
          go_roundw
          case rel => exact ⟨f, nxT n m, o2.set m (s : Int), pre ++ [(m : Int)], rfl, hl2, by have := HNG.out; omega, by simp [hol2], by have := HNG.out; simp; omega, HM2, ⟨TS.trans (hb3.mono hzr), grown_low GS hb3 hzw, BS.low hb3 hzo⟩, grown_low GO hb3 (Nat.le_refl _), hF3, Nat.le_trans hzS hb3.size⟩
          case measure =>
            have h5 := hF3.len
            have := HNG.out
            rw [h5]
            simp only [lenOf, List.length_append, List.length_cons, List.length_nil]
            omega
        · have hE : pre = all := cyL_done (by rw [hy]; exact hy0) HM.out.2
          have hO : o2 = mrk n s (N + 1) k o := by rw [← HM.out.1, mrk_no (by rw [hy]; exact hy0)]
          have e1 : decide (0 ≤ y) = true := decide_eq_true (by omega)
          rw [e1] at ck1
          clear hy
          by_cases hx0 : o.getD k 0 < 0
          · have hap : 0 < all.length := by rw [← HA.out]; exact cyL_pos hx0
            have HSU2 : Hid (cus n (k + 1) = (o2, s + 1)) := Lib.hid (by rw [HSU.out, if_pos hx0, hO])
            have HCY2 : Hid (cys n (k + 1) = css ++ [pre]) := Lib.hid (by rw [HCY.out, if_pos hx0, HA.out, hE])
            rw [← hE] at hap
            clear hE hO hx0
            go_wp2_with (at_builtin; refine appSSK rfl _ _ rfl (w.heap.size + 1) w.heap.size wo wr (.slice adc css.length capc) css (.slice adp pre.length capp) pre rfl HS.out hgw (by omega) (ownsRow_weakZ hF hzo) (fun g hg => (World.ownsRow.lt hF g hg).1) rfl wr.heap.size rfl rfl (by omega) (by omega) ?_; intro v' w' hG2 hb2)
            go_roundw
            case rel => exact ⟨k + 1, by omega, by rw [← HQ.out]; go_num, by rw [HSU2.out]; exact ⟨hC2.below.trans (hb2.mono (by omega)), grown_low hC2.since hb2 (by omega), hC2.box.low hb2 (by omega)⟩, by rw [HCY2.out]; exact hG2⟩
            case measure => simp [intOf]; have := HQ.out; omega
          · have hae : all = [] := by rw [← HA.out]; exact cyL_no hx0
            have HSU2 : Hid (cus n (k + 1) = cus n k) := Lib.hid (by rw [HSU.out, if_neg hx0])
            have HCY2 : Hid (cys n (k + 1) = css) := Lib.hid (by rw [HCY.out, if_neg hx0])
            have hoo : Hid (o2 = o) := Lib.hid (by rw [hO, mrk_no hx0])
            have hpe : pre = [] := hE.trans hae
            subst hpe
            clear hE hO hx0 hae
            simp only [List.length_nil]
            have HS2 := HS.out.keptC hgw (fun r e => by injection e with e; omega)
            go_wp2
            go_roundw
            case rel => exact ⟨k + 1, by omega, by rw [← HQ.out]; go_num, by rw [HSU2.out, HO.out.1, ← hoo.out]; exact hC2, by rw [HCY2.out]; exact HS2⟩
            case measure => simp [intOf]; have := HQ.out; omega
    · obtain rfl : k = N := by omega
      go_wp2
      go_ret
      exact ⟨_, rfl, by rw [HO.out.2.2]; exact hS.weakZ (by omega), hC.below⟩
end Go.Proofs.Ytajfjfgpiggekaa
