/- PathOfTriple: the model's side. -/
import Derived.Test.YtafmfdhogoheaaaDoorPtJ
namespace Go.Proofs.YtafmfdhogoheaaaDoor
open Go.ChangeShapes Go.WideShapes Go.ChangeAt Go.RowKit

theorem take_three (xs : List Int) (k : Nat) (h : 3 * k + 3 ≤ xs.length) : xs.take (3 * (k + 1)) ++ [] = xs.take (3 * k) ++ [(triAt xs k).x, (triAt xs k).y, (triAt xs k).z] := by
  have g0 : xs.getD (3 * k) 0 = xs[3 * k]'(by omega) := by simp [List.getD, List.getElem?_eq_getElem (show 3 * k < xs.length by omega)]
  have g1 : xs.getD (3 * k + 1) 0 = xs[3 * k + 1]'(by omega) := by simp [List.getD, List.getElem?_eq_getElem (show 3 * k + 1 < xs.length by omega)]
  have g2 : xs.getD (3 * k + 2) 0 = xs[3 * k + 2]'(by omega) := by simp [List.getD, List.getElem?_eq_getElem (show 3 * k + 2 < xs.length by omega)]
  unfold triAt
  dsimp only
  rw [g0, g1, g2, show 3 * (k + 1) = 3 * k + 2 + 1 by omega, List.take_succ_eq_append_getElem (show 3 * k + 2 < xs.length by omega), List.take_succ_eq_append_getElem (show 3 * k + 1 < xs.length by omega), List.take_succ_eq_append_getElem (show 3 * k < xs.length by omega)]
  simp only [List.append_assoc, List.cons_append, List.nil_append, List.append_nil]
/-- the block of a pointer -/
def blkOf : Value → Nat
  | .pointer (some a) => a.block
  | _ => 0
theorem GrH.far {w : World} {L n : Nat} {v : Value} {xs : List Int} (h : GrH w L v n xs) {p : Addr} (hp : ∀ g, v.ownBlock = some g → g ≠ p.block) (u : Value) : GrH (w.setCell p u) L v n xs := by
  refine World.ownsRow.kept (row := some p.block) h ⟨rfl, rfl, rfl, by simp [World.setCell], fun k _hk hne => ?_⟩ ?_
  · have : k ≠ p.block := fun e => hne (by rw [e])
    simp [World.setCell, Array.getElem?_modify, Ne.symm this]
  · rcases e : v.ownBlock with _ | g
    · exact .inl rfl
    · exact .inr (fun q => hp g e (Option.some.inj q))
/-- 'append' of a triple: other blocks stay -/
theorem appH2 {ops : Array Oper} {rest : List Oper} {ob : Oper} {a : Act} {Q : Exit → Act → World → Prop} (hgd : ob.guard = none) (s x : Operand)
    (ho : ob.op = .call { callee := .builtin .append, args := #[s, x], argTypes := #[22, 22] })
    (L : Nat) (w : World) (v : Value) (n : Nat) (xs : List Int) (y0 y1 y2 : Int) (hs : a.eval s = v) (hown : GrH w L v n xs) (g : Nat) (hx : a.eval x = .slice (some ⟨g, 0, none⟩) 1 1)
    (hg : w.heap.size = g) (hlen : n ≤ 1000000000) (hL : L ≤ w.heap.size)
    (h : ∀ v' w', GrH w' L v' (n + 1) (xs ++ [y0, y1, y2]) → Below L w w' → (∀ b r, (∀ g, v.ownBlock = some g → g ≠ b) → Box w b r → Box w' b r) → wpList Tryd.prog ops Q rest (a.put ob.dst v') w') : wpList Tryd.prog ops Q (ob :: rest) a (w.alloc (.cells #[.int .i64 y0, .int .i64 y1, .int .i64 y2] 36)) := by
  obtain ⟨i0, hi, hz0, hz1, hz2⟩ := info_parts info_elH
  subst hg
  refine wpList_append_own _ hgd s x 22 ho L 36 i0 (.agg #[.int .i64 0, .int .i64 0, .int .i64 0]) 3 24 Tryd.underlying22 hi hz0 hz1 hz2 rfl (by decide) v n _ hs (GrH.alloc hown _) ⟨w.heap.size, 0, none⟩ 1 1 [.int .i64 y0, .int .i64 y1, .int .i64 y2] hx rfl ?_ ?_ ?_ ?_ ?_ ?_
  · intro j u hj
    match j, hj with
    | 0, hj => simp at hj; subst hj; simp [Addr.add]
    | 1, hj => simp at hj; subst hj; simp [Addr.add]
    | 2, hj => simp at hj; subst hj; simp [Addr.add]
  · intro u hu
    simp only [List.mem_cons, List.not_mem_nil, or_false] at hu
    rcases hu with rfl | rfl | rfl <;> rfl
  · unfold maxLen; omega
  · omega
  · simp; omega
  · intro v' w' hown' hgrow _
    refine h v' w' ?_ ?_ ?_
    · unfold GrH
      rw [List.map_append]
      exact hown'
    · have hb : Below L w (w.alloc (.cells #[.int .i64 y0, .int .i64 y1, .int .i64 y2] 36)) := (Below.refl L w).alloc hL _
      exact hb.grown hgrow (by simp; omega) (fun j hj => (hown.lt j hj).1)
    · intro b r hne hB
      have hA := hB.alloc (.cells #[.int .i64 y0, .int .i64 y1, .int .i64 y2] 36)
      have hk := hgrow.block b hA.1 (fun e => hne b e.symm rfl)
      refine ⟨Nat.lt_of_lt_of_le hA.1 hgrow.size, fun i u hu => ⟨?_, ?_⟩⟩
      · exact (World.cell?_of_block (a := ⟨b, i, none⟩) hk).trans (hA.2 i u hu).1
      · exact (World.frozen?_of_block (a := ⟨b, i, none⟩) hk).trans (hA.2 i u hu).2
theorem GrH.row {w : World} {L n : Nat} {v : Value} {xs zs : List Int} (h : GrH w L v n zs) (h0 : 0 < n) (hz : ∀ k, k < 3 * n → zs.getD k 0 = xs.getD k 0) :
    ∃ g cap, v = .slice (some ⟨g, 0, none⟩) n cap ∧ L ≤ g ∧ RowT w g n (triAt xs) := by
  obtain ⟨_, _, ad, cap, rfl, hc⟩ := h.sl
  obtain ⟨g, rfl, hL, hg, hcs⟩ := hc h0
  refine ⟨g, cap, rfl, hL, hg, fun k hk => ?_⟩
  have q0 := hcs (3 * k) (by omega)
  have q1 := hcs (3 * k + 1) (by omega)
  have q2 := hcs (3 * k + 2) (by omega)
  rw [hz _ (by omega)] at q0 q1 q2
  rw [Nat.mul_comm k 3]
  exact ⟨⟨q0.1, q1.1, q2.1⟩, ⟨q0.2, q1.2, q2.2⟩⟩
theorem app_byte (bs : List UInt8) (c : UInt8) : (⟨bs.toArray⟩ : ByteArray) ++ ⟨#[c]⟩ = ⟨(bs ++ [c]).toArray⟩ := by
  apply ByteArray.ext
  rw [ByteArray.data_append]
  simp
set_option maxHeartbeats 1000000 in
theorem specPt_no (a b c : Int) (h : isT a b c = false) (w : World) : Calls Tryd.prog 18 #[(.agg #[.int .i64 a, .int .i64 b, .int .i64 c])] w (RetPt ⟨#[]⟩ 1 w) := by
  have H := Lib.hid h
  clear h
  go_enter Tryd.func18, Tryd.ntmps18
  go_wp2_with fail
  refine (specIsT_is false _ _ _ H.out _).mono ?_
  rintro e w1 ⟨rfl, hb1⟩
  go_wp2
  go_ret2
  exact ⟨rfl, by repeat (first | with_reducible exact own_refl _ | with_reducible assumption | with_reducible apply own_alloc | with_reducible apply own_drewN | with_reducible apply own_drew | ((with_reducible refine own_setCell ?_ ?_ _); rotate_left; focus (first | (simp; done) | (simp; omega))) | (with_reducible (refine own_trans ?_ (by assumption))))⟩
set_option maxHeartbeats 1000000 in
theorem specPt_short (a b c : Int) (h : isT a b c = true) (hc : c < 5) (w : World) : Calls Tryd.prog 18 #[(.agg #[.int .i64 a, .int .i64 b, .int .i64 c])] w (RetPt ⟨#[]⟩ 4 w) := by
  have H := Lib.hid h
  clear h
  go_enter Tryd.func18, Tryd.ntmps18
  go_wp2_with fail
  refine (specIsT_is true _ _ _ H.out _).mono ?_
  rintro e w1 ⟨rfl, hb1⟩
  have Bw1_0 : Box w1 (w.heap.size) [.int .i64 a, .int .i64 b, .int .i64 c] := by refine Box.below ?_ hb1; repeat (first | with_reducible assumption | with_reducible exact Box.new _ _ _ | (with_reducible refine Box.newAt ?_ _ _; (simp; done)) | with_reducible apply Box.alloc | with_reducible apply Box.drewN | with_reducible apply Box.drew)
  obtain ⟨_, _, _, _, _, _, _⟩ := Bw1_0.three
  go_wp2
  go_ret2
  exact ⟨rfl, by repeat (first | with_reducible exact own_refl _ | with_reducible assumption | with_reducible apply own_alloc | with_reducible apply own_drewN | with_reducible apply own_drew | ((with_reducible refine own_setCell ?_ ?_ _); rotate_left; focus (first | (simp; done) | (simp; omega))) | (with_reducible (refine own_trans ?_ (by assumption))))⟩
set_option maxHeartbeats 8000000 in
theorem specPt_long (a b c : Int) (h : isT a b c = true) (n : Nat) (l : List Int) (hd : Dn a b c n l) (hn : 14 < n) (w : World) : Calls Tryd.prog 18 #[(.agg #[.int .i64 a, .int .i64 b, .int .i64 c])] w (RetPt ⟨#[]⟩ 3 w) := by
  obtain ⟨xs, hxs⟩ : ∃ xs, a :: b :: c :: l = xs := ⟨_, rfl⟩
  have hway : Way (triAt (a :: b :: c :: l)) n := hd.way h
  have hlen : (a :: b :: c :: l).length = 3 * (n + 1) := by simp only [List.length_cons]; rw [hd.len]; omega
  have h3 : xs.take (3 * (0 + 1)) = [a, b, c] := by rw [← hxs]; rfl
  have h00 : (triAt xs 0).x = a ∧ (triAt xs 0).y = b ∧ (triAt xs 0).z = c := by rw [← hxs]; exact ⟨rfl, rfl, rfl⟩
  rw [hxs] at hway hlen
  have hc5 : ¬ c < 5 := by have := hway.five; rw [h00.2.2] at this; omega
  have H := Lib.hid h
  have HW := Lib.hid hway
  have HLN := Lib.hid hlen
  have HH3 := Lib.hid h3
  have H00 := Lib.hid h00
  have HN2 := Lib.hid hn
  clear h hd hxs hway hlen h3 h00
  go_enter Tryd.func18, Tryd.ntmps18
  go_wp2_with fail
  refine (specIsT_is true _ _ _ H.out _).mono ?_
  rintro e w1 ⟨rfl, hb1⟩
  have Bw1_0 : Box w1 (w.heap.size) [.int .i64 a, .int .i64 b, .int .i64 c] := by refine Box.below ?_ hb1; repeat (first | with_reducible assumption | with_reducible exact Box.new _ _ _ | (with_reducible refine Box.newAt ?_ _ _; (simp; done)) | with_reducible apply Box.alloc | with_reducible apply Box.drewN | with_reducible apply Box.drew)
  obtain ⟨_, _, _, _, _, _, _⟩ := Bw1_0.three
  have T1 : Below w.heap.size w w1 := by repeat (first | with_reducible exact own_refl _ | with_reducible assumption | with_reducible apply own_alloc | with_reducible apply own_drewN | with_reducible apply own_drew | ((with_reducible refine own_setCell ?_ ?_ _); rotate_left; focus (first | (simp; done) | (simp; omega))) | (with_reducible (refine own_trans ?_ (by assumption))))
  have z1 : w.heap.size + 1 ≤ w1.heap.size := by have := hb1.size; simpa using this
  go_wp2_with fail
  go_loopw [4, 5] (fun v p wr => ∃ (k h : Nat), p = .pointer (some ⟨h, 0, none⟩) ∧ k + 2 ≤ n ∧ w.heap.size + 1 ≤ h ∧ Below w.heap.size w wr ∧ Box wr h [.int .i64 ((triAt xs k).x), .int .i64 ((triAt xs k).y), .int .i64 ((triAt xs k).z)] ∧ GrH wr (w.heap.size + 1) v (k + 1) (xs.take (3 * (k + 1))) ∧ Hid (∀ g, v.ownBlock = some g → g ≠ h)) (fun _ p wr => (cel3 wr (blkOf p)).toNat)
  case atStart =>
    refine ⟨0, _, rfl, by omega, ?_, by repeat (first | with_reducible exact own_refl _ | with_reducible assumption | with_reducible apply own_alloc | with_reducible apply own_drewN | with_reducible apply own_drew | ((with_reducible refine own_setCell ?_ ?_ _); rotate_left; focus (first | (simp; done) | (simp; omega))) | (with_reducible (refine own_trans ?_ (by assumption)))), ?_, ?_, Lib.hid ?_⟩
    · simp; omega
    · obtain ⟨q1, q2, q3⟩ := H00.out
      rw [q1, q2, q3]
      exact Box.newAt (by simp) _ _
    · rw [HH3.out]
      exact (GrH.one a b c rfl z1).alloc _
    · intro g hg
      simp [Value.ownBlock] at hg
      simp; omega
  case round =>
    obtain ⟨k, hb, rfl, hk, hbL, T, B, hG, HO⟩ := hrel
    obtain ⟨ad, cap, hv⟩ := hG.shape
    subst hv
    have hz : w.heap.size + 1 ≤ wr.heap.size := by have := B.1; omega
    by_cases hlt : k + 2 < n
    · have ht := HW.out.tri k (by omega)
      obtain ⟨ex, ey, ez⟩ := isT_ent ht
      obtain ⟨_, d2, _⟩ := down_is ht (HW.out.ne k (by omega)) rfl
      have dn := HW.out.down k (by omega)
      have nb := HW.out.nb k (by omega)
      have h5 := HW.out.over k hlt
      have HM : Hid ((triAt xs (k + 1)).z.toNat < (triAt xs k).z.toNat ∧ k + 1 ≤ 1000000000) := Lib.hid ⟨by have := (isT_of ht).1; have := (isT_of ht).2.1; omega, by have := HW.out.lenb; omega⟩
      have HT : Hid (xs.take (3 * (k + 1)) ++ [(triAt xs (k + 1)).x, (triAt xs (k + 1)).y, (triAt xs (k + 1)).z] = xs.take (3 * (k + 1 + 1))) := Lib.hid (by
        have := take_three xs (k + 1) (by rw [HLN.out]; omega)
        rw [List.append_nil] at this
        exact this.symm)
      have HC := Lib.hid (fun w => l09Nb_2 (triAt xs k).x (triAt xs k).y (triAt xs k).z _ (triAt xs (k + 1)).x (triAt xs (k + 1)).y (triAt xs (k + 1)).z ex ey ez rfl nb.1.symm nb.2.symm (by rw [d2, dn.1]) w)
      clear ht ex ey ez d2 dn nb
      generalize hx0 : (triAt xs k).x = x at *
      generalize hy0 : (triAt xs k).y = y at *
      generalize hz0 : (triAt xs k).z = z at *
      generalize hp0 : (triAt xs (k + 1)).x = p at *
      generalize hq0 : (triAt xs (k + 1)).y = q at *
      generalize hr0 : (triAt xs (k + 1)).z = r at *
      have HE : Hid ((triAt xs (k + 1)).x = p ∧ (triAt xs (k + 1)).y = q ∧ (triAt xs (k + 1)).z = r) := Lib.hid ⟨hp0, hq0, hr0⟩
      clear hx0 hy0 hz0 hp0 hq0 hr0
      obtain ⟨_, _, _, _, _, _, _⟩ := B.three
      have HB := Lib.hid (cel3_is B)
      go_wp2_with fail
      refine (HC.out _).mono ?_
      rintro e w2 ⟨rfl, hb2⟩
      have B2 := B.below hb2
      obtain ⟨_, _, _, _, _, _, _⟩ := B2.three
      have G2 := hG.own hb2
      have T2 := own_trans T hb2
      have z2 := hb2.size
      have hLh : w.heap.size ≤ hb := by omega
      have B3 := B2.put3 (.int .i64 p) (.int .i64 q) (.int .i64 r)
      have G3 := ((G2.far (p := ⟨hb, 0, none⟩) HO.out (.int .i64 p)).far (p := ⟨hb, 1, none⟩) HO.out (.int .i64 q)).far (p := ⟨hb, 2, none⟩) HO.out (.int .i64 r)
      have T3 : Below w.heap.size w (((w2.setCell ⟨hb, 0, none⟩ (.int .i64 p)).setCell ⟨hb, 1, none⟩ (.int .i64 q)).setCell ⟨hb, 2, none⟩ (.int .i64 r)) := ((T2.setCell hLh _).setCell hLh _).setCell hLh _
      go_upto_region 9 with fail
      have zW : w.heap.size + 1 ≤ (((w2.setCell ⟨hb, 0, none⟩ (.int .i64 p)).setCell ⟨hb, 1, none⟩ (.int .i64 q)).setCell ⟨hb, 2, none⟩ (.int .i64 r)).heap.size := by simp [World.setCell]; omega
      generalize (((w2.setCell ⟨hb, 0, none⟩ (.int .i64 p)).setCell ⟨hb, 1, none⟩ (.int .i64 q)).setCell ⟨hb, 2, none⟩ (.int .i64 r)) = W at *
      clear B2 G2 T2
      obtain ⟨_, _, _, _, _, _, _⟩ := B3.three
      go_upto_region 10 with (at_builtin; refine appH2 rfl _ _ rfl (w.heap.size + 1) W (.slice ad (k + 1) cap) (k + 1) _ p q r rfl G3 W.heap.size rfl rfl HM.out.2 zW ?_; intro v' w3 hG3 hb3 hBB)
      have B4 := hBB hb _ HO.out B3
      have T4 := T3.trans (hb3.mono (by omega))
      obtain ⟨_, _, _, _, _, _, _⟩ := B4.three
      go_wp2
      go_roundw
      case rel =>
        obtain ⟨q1, q2, q3⟩ := HE.out
        refine ⟨k + 1, _, rfl, by omega, ?_, own_alloc T4 _, ?_, ?_, Lib.hid ?_⟩
        · have := hb3.size; omega
        · rw [q1, q2, q3]; exact Box.new _ _ _
        · rw [← HT.out]; exact hG3.alloc _
        · intro g hg e
          have := (hG3.lt g hg).2
          omega
      case measure =>
        show (cel3 _ w3.heap.size).toNat < (cel3 wr hb).toNat
        rw [cel3_is (Box.new w3 [.int .i64 p, .int .i64 q, .int .i64 r] _), HB.out]
        exact HM.out.1
    · have hk2 : k = n - 2 := by omega
      have hL2 := HW.out.last2 (by omega)
      subst hk2
      rw [hL2.1, hL2.2.1, hL2.2.2] at B
      obtain ⟨_, _, _, _, _, _, _⟩ := B.three
      have HnM : Hid (n = n - 2 + 2) := Lib.hid (by omega)
      clear hL2 hlt hk
      generalize n - 2 = M at *
      have hs2 : (12 : Int) < (M : Int) := by have := HnM.out; have := HN2.out; omega
      have hw : IntKind.i64.wrap (M : Int) = (M : Int) := IntWalk.i64_in _ (by have := HnM.out; have := HW.out.lenb; omega)
      have hw2 : wrap64 (M : Int) = (M : Int) := IntWalk.wrap64_in _ (by have := HnM.out; have := HW.out.lenb; omega)
      clear hG
      go_wp2
      go_ret2
      exact ⟨rfl, T⟩
set_option maxHeartbeats 8000000 in
theorem specPt_yes (a b c : Int) (h : isT a b c = true) (n : Nat) (l : List Int) (hd : Dn a b c n l) (hn : 2 ≤ n ∧ n ≤ 14) (w : World) : Calls Tryd.prog 18 #[(.agg #[.int .i64 a, .int .i64 b, .int .i64 c])] w (RetPt ⟨(upP (triAt (a :: b :: c :: l)) (n - 2) (n - 2)).1.toArray⟩ 0 w) := by
  have hn' := hn
  obtain ⟨xs, hxs⟩ : ∃ xs, a :: b :: c :: l = xs := ⟨_, rfl⟩
  have hway : Way (triAt (a :: b :: c :: l)) n := hd.way h
  have hlen : (a :: b :: c :: l).length = 3 * (n + 1) := by simp only [List.length_cons]; rw [hd.len]; omega
  have h3 : xs.take (3 * (0 + 1)) = [a, b, c] := by rw [← hxs]; rfl
  have h00 : (triAt xs 0).x = a ∧ (triAt xs 0).y = b ∧ (triAt xs 0).z = c := by rw [← hxs]; exact ⟨rfl, rfl, rfl⟩
  rw [hxs] at hway hlen ⊢
  have hc5 : ¬ c < 5 := by have := hway.five; rw [h00.2.2] at this; omega
  have H := Lib.hid h
  have HW := Lib.hid hway
  have HLN := Lib.hid hlen
  have HH3 := Lib.hid h3
  have H00 := Lib.hid h00
  have HN2 := Lib.hid hn
  clear h hd hxs hway hlen h3 h00
  go_enter Tryd.func18, Tryd.ntmps18
  go_wp2_with fail
  refine (specIsT_is true _ _ _ H.out _).mono ?_
  rintro e w1 ⟨rfl, hb1⟩
  have Bw1_0 : Box w1 (w.heap.size) [.int .i64 a, .int .i64 b, .int .i64 c] := by refine Box.below ?_ hb1; repeat (first | with_reducible assumption | with_reducible exact Box.new _ _ _ | (with_reducible refine Box.newAt ?_ _ _; (simp; done)) | with_reducible apply Box.alloc | with_reducible apply Box.drewN | with_reducible apply Box.drew)
  obtain ⟨_, _, _, _, _, _, _⟩ := Bw1_0.three
  have T1 : Below w.heap.size w w1 := by repeat (first | with_reducible exact own_refl _ | with_reducible assumption | with_reducible apply own_alloc | with_reducible apply own_drewN | with_reducible apply own_drew | ((with_reducible refine own_setCell ?_ ?_ _); rotate_left; focus (first | (simp; done) | (simp; omega))) | (with_reducible (refine own_trans ?_ (by assumption))))
  have z1 : w.heap.size + 1 ≤ w1.heap.size := by have := hb1.size; simpa using this
  go_wp2_with fail
  go_loopw [4, 5] (fun v p wr => ∃ (k h : Nat), p = .pointer (some ⟨h, 0, none⟩) ∧ k + 2 ≤ n ∧ w.heap.size + 1 ≤ h ∧ Below w.heap.size w wr ∧ Box wr h [.int .i64 ((triAt xs k).x), .int .i64 ((triAt xs k).y), .int .i64 ((triAt xs k).z)] ∧ GrH wr (w.heap.size + 1) v (k + 1) (xs.take (3 * (k + 1))) ∧ Hid (∀ g, v.ownBlock = some g → g ≠ h)) (fun _ p wr => (cel3 wr (blkOf p)).toNat)
  case atStart =>
    refine ⟨0, _, rfl, by omega, ?_, by repeat (first | with_reducible exact own_refl _ | with_reducible assumption | with_reducible apply own_alloc | with_reducible apply own_drewN | with_reducible apply own_drew | ((with_reducible refine own_setCell ?_ ?_ _); rotate_left; focus (first | (simp; done) | (simp; omega))) | (with_reducible (refine own_trans ?_ (by assumption)))), ?_, ?_, Lib.hid ?_⟩
    · simp; omega
    · obtain ⟨q1, q2, q3⟩ := H00.out
      rw [q1, q2, q3]
      exact Box.newAt (by simp) _ _
    · rw [HH3.out]
      exact (GrH.one a b c rfl z1).alloc _
    · intro g hg
      simp [Value.ownBlock] at hg
      simp; omega
  case round =>
    obtain ⟨k, hb, rfl, hk, hbL, T, B, hG, HO⟩ := hrel
    obtain ⟨ad, cap, hv⟩ := hG.shape
    subst hv
    have hz : w.heap.size + 1 ≤ wr.heap.size := by have := B.1; omega
    by_cases hlt : k + 2 < n
    · have ht := HW.out.tri k (by omega)
      obtain ⟨ex, ey, ez⟩ := isT_ent ht
      obtain ⟨_, d2, _⟩ := down_is ht (HW.out.ne k (by omega)) rfl
      have dn := HW.out.down k (by omega)
      have nb := HW.out.nb k (by omega)
      have h5 := HW.out.over k hlt
      have HM : Hid ((triAt xs (k + 1)).z.toNat < (triAt xs k).z.toNat ∧ k + 1 ≤ 1000000000) := Lib.hid ⟨by have := (isT_of ht).1; have := (isT_of ht).2.1; omega, by have := HW.out.lenb; omega⟩
      have HT : Hid (xs.take (3 * (k + 1)) ++ [(triAt xs (k + 1)).x, (triAt xs (k + 1)).y, (triAt xs (k + 1)).z] = xs.take (3 * (k + 1 + 1))) := Lib.hid (by
        have := take_three xs (k + 1) (by rw [HLN.out]; omega)
        rw [List.append_nil] at this
        exact this.symm)
      have HC := Lib.hid (fun w => l09Nb_2 (triAt xs k).x (triAt xs k).y (triAt xs k).z _ (triAt xs (k + 1)).x (triAt xs (k + 1)).y (triAt xs (k + 1)).z ex ey ez rfl nb.1.symm nb.2.symm (by rw [d2, dn.1]) w)
      clear ht ex ey ez d2 dn nb
      generalize hx0 : (triAt xs k).x = x at *
      generalize hy0 : (triAt xs k).y = y at *
      generalize hz0 : (triAt xs k).z = z at *
      generalize hp0 : (triAt xs (k + 1)).x = p at *
      generalize hq0 : (triAt xs (k + 1)).y = q at *
      generalize hr0 : (triAt xs (k + 1)).z = r at *
      have HE : Hid ((triAt xs (k + 1)).x = p ∧ (triAt xs (k + 1)).y = q ∧ (triAt xs (k + 1)).z = r) := Lib.hid ⟨hp0, hq0, hr0⟩
      clear hx0 hy0 hz0 hp0 hq0 hr0
      obtain ⟨_, _, _, _, _, _, _⟩ := B.three
      have HB := Lib.hid (cel3_is B)
      go_wp2_with fail
      refine (HC.out _).mono ?_
      rintro e w2 ⟨rfl, hb2⟩
      have B2 := B.below hb2
      obtain ⟨_, _, _, _, _, _, _⟩ := B2.three
      have G2 := hG.own hb2
      have T2 := own_trans T hb2
      have z2 := hb2.size
      have hLh : w.heap.size ≤ hb := by omega
      have B3 := B2.put3 (.int .i64 p) (.int .i64 q) (.int .i64 r)
      have G3 := ((G2.far (p := ⟨hb, 0, none⟩) HO.out (.int .i64 p)).far (p := ⟨hb, 1, none⟩) HO.out (.int .i64 q)).far (p := ⟨hb, 2, none⟩) HO.out (.int .i64 r)
      have T3 : Below w.heap.size w (((w2.setCell ⟨hb, 0, none⟩ (.int .i64 p)).setCell ⟨hb, 1, none⟩ (.int .i64 q)).setCell ⟨hb, 2, none⟩ (.int .i64 r)) := ((T2.setCell hLh _).setCell hLh _).setCell hLh _
      go_upto_region 9 with fail
      have zW : w.heap.size + 1 ≤ (((w2.setCell ⟨hb, 0, none⟩ (.int .i64 p)).setCell ⟨hb, 1, none⟩ (.int .i64 q)).setCell ⟨hb, 2, none⟩ (.int .i64 r)).heap.size := by simp [World.setCell]; omega
      generalize (((w2.setCell ⟨hb, 0, none⟩ (.int .i64 p)).setCell ⟨hb, 1, none⟩ (.int .i64 q)).setCell ⟨hb, 2, none⟩ (.int .i64 r)) = W at *
      clear B2 G2 T2
      obtain ⟨_, _, _, _, _, _, _⟩ := B3.three
      go_upto_region 10 with (at_builtin; refine appH2 rfl _ _ rfl (w.heap.size + 1) W (.slice ad (k + 1) cap) (k + 1) _ p q r rfl G3 W.heap.size rfl rfl HM.out.2 zW ?_; intro v' w3 hG3 hb3 hBB)
      have B4 := hBB hb _ HO.out B3
      have T4 := T3.trans (hb3.mono (by omega))
      obtain ⟨_, _, _, _, _, _, _⟩ := B4.three
      go_wp2
      go_roundw
      case rel =>
        obtain ⟨q1, q2, q3⟩ := HE.out
        refine ⟨k + 1, _, rfl, by omega, ?_, own_alloc T4 _, ?_, ?_, Lib.hid ?_⟩
        · have := hb3.size; omega
        · rw [q1, q2, q3]; exact Box.new _ _ _
        · rw [← HT.out]; exact hG3.alloc _
        · intro g hg e
          have := (hG3.lt g hg).2
          omega
      case measure =>
        show (cel3 _ w3.heap.size).toNat < (cel3 wr hb).toNat
        rw [cel3_is (Box.new w3 [.int .i64 p, .int .i64 q, .int .i64 r] _), HB.out]
        exact HM.out.1
    · have hk2 : k = n - 2 := by omega
      have hL2 := HW.out.last2 (by omega)
      subst hk2
      rw [hL2.1, hL2.2.1, hL2.2.2] at B
      obtain ⟨_, _, _, _, _, _, _⟩ := B.three
      have HnM : Hid (n = n - 2 + 2) := Lib.hid (by omega)
      clear hL2 hlt hk
      generalize n - 2 = M at *
      have hs2 : ¬ (12 : Int) < (M : Int) := by have := HnM.out; have := HN2.out; omega
      have hw : IntKind.i64.wrap (M : Int) = (M : Int) := IntWalk.i64_in _ (by have := HnM.out; have := HN2.out; omega)
      have hw2 : wrap64 (M : Int) = (M : Int) := IntWalk.wrap64_in _ (by have := HnM.out; have := HN2.out; omega)
      obtain ⟨g, cap2, hv2, hgL, RT⟩ := hG.row (xs := xs) (by omega) (fun k hk => by
        have e : (xs.take (3 * (M + 1)))[k]? = xs[k]? := List.getElem?_take_of_lt hk
        simp only [List.getD, e])
      injection hv2 with e1 _ e3
      subst e1 e3
      have RT0 := Lib.hid RT
      have T0 := Lib.hid T
      have hwm : IntKind.i64.wrap ((M : Int) - 1) = (M : Int) - 1 := IntWalk.i64_in _ (by have := HnM.out; have := HN2.out; omega)
      have hwm2 : wrap64 ((M : Int) - 1) = (M : Int) - 1 := IntWalk.wrap64_in _ (by have := HnM.out; have := HN2.out; omega)
      have HgL : Hid (w.heap.size ≤ g ∧ g < wr.heap.size) := Lib.hid ⟨by omega, RT0.out.1⟩
      clear hG RT
      generalize wr = V at *
      go_wp2_with fail
      go_loopw [6, 7, 8] (fun x p i wr => ∃ j : Nat, j ≤ M ∧ x = (.int .i64 ((upP (triAt xs) M j).2)) ∧ p = .string ⟨(upP (triAt xs) M j).1.toArray⟩ ∧ i = (.int .i64 ((M : Int) - 1 - j)) ∧ Below V.heap.size V wr) (fun _ _ i _ => ((intOf i) + 1).toNat)
      case atStart => exact ⟨0, Nat.zero_le _, rfl, rfl, by simp; omega, Below.refl _ _⟩
      case round =>
        obtain ⟨j, hj, hx, hp, rfl, T⟩ := hrel
        rcases hU : upP (triAt xs) M j with ⟨bs, X⟩
        rw [hU] at hx hp
        dsimp only at hx hp
        subst hx hp
        have HU := Lib.hid hU
        have HL : Hid (bs.length = j) := Lib.hid (by have := upP_len (triAt xs) M j; rw [hU] at this; exact this)
        have hX : X < (triAt xs (M - j)).z ∧ 1 ≤ X := by
          have := upP_lt HW.out (by have := HN2.out; omega) j (by have := HnM.out; omega)
          rw [show n - 2 = M by have := HnM.out; omega, hU] at this
          exact ⟨this.2, this.1⟩
        clear hU
        by_cases hlt : j < M
        · obtain ⟨K, hK⟩ : ∃ K : Nat, K + 1 = M - j := ⟨M - j - 1, by omega⟩
          have eK : (M : Int) - 1 - (j : Int) = (K : Int) := by omega
          rw [eK]
          have hKM : K + 1 < M + 1 := by omega
          have hKM2 : K < M + 1 := by omega
          have RT := RT0.out.below T
          obtain ⟨a0, a1, a2⟩ := (RT.2 (K + 1) hKM).1
          obtain ⟨b0, b1, b2⟩ := (RT.2 K hKM2).1
          have hsp := spec_test HW.out (by have := HN2.out; omega) j (by have := HnM.out; omega) X (by rw [show n - 2 - j = M - j by have := HnM.out; omega]; exact hX.1)
          rw [show n - 2 - (j + 1) = K by have := HnM.out; omega, show n - 2 - j = K + 1 by have := HnM.out; omega] at hsp
          have ht := isT_of (HW.out.tri (K + 1) (by have := HnM.out; omega))
          have htK := isT_of (HW.out.tri K (by have := HnM.out; omega))
          have hXK : X < (triAt xs (K + 1)).z ∧ 1 ≤ X := by rw [hK]; exact hX
          have HLT : Hid (letP (triAt xs) (M - (j + 1)) (upP (triAt xs) M j).2 = if (triAt xs K).x = X then (76, X) else (82, (triAt xs (K + 1)).z)) := Lib.hid (by
            rw [HU.out, show M - (j + 1) = K by omega]
            rfl)
          generalize hz1 : (triAt xs (K + 1)).z = z at *
          generalize (triAt xs (K + 1)).x = u1 at a0
          generalize (triAt xs (K + 1)).y = u2 at a1
          generalize hd0 : (triAt xs K).x = d0 at *
          generalize hd1 : (triAt xs K).y = d1 at *
          generalize hd2 : (triAt xs K).z = d2 at *
          obtain ⟨P, hP⟩ : ∃ P, lo3 X z d2 = P := ⟨_, rfl⟩
          obtain ⟨Q, hQ⟩ : ∃ Q, mi3 X z d2 = Q := ⟨_, rfl⟩
          obtain ⟨S, hS⟩ : ∃ S, hi3 X z d2 = S := ⟨_, rfl⟩
          rw [hP, hQ, hS] at hsp
          have HO := Lib.hid (fun w => l09Sorted_is X z d2 P Q S (by unfold Bd; omega) (by unfold Bd; omega) (by unfold Bd; omega) hP hQ hS w)
          clear hP hQ hS ht htK hd0 hd1 hd2 hz1 hX hXK
          obtain ⟨B, hB⟩ : ∃ B : ByteArray, B = ⟨bs.toArray⟩ := ⟨_, rfl⟩
          rw [← hB]
          have hcc : ¬ 9223372036854775807 < B.size + 1 := by
            rw [hB]
            have : (⟨bs.toArray⟩ : ByteArray).size = bs.length := by simp [ByteArray.size]
            have := HL.out
            omega
          have HBB := Lib.hid hB
          have eJ : Hid (upP (triAt xs) M (j + 1) = if d0 = X then (bs ++ [76], X) else (bs ++ [82], z)) := Lib.hid (by
            rw [upP, HLT.out, HU.out]
            split <;> rfl)
          have eM : ((M : Int) - 1 - ((j + 1 : Nat) : Int)) = (K : Int) - 1 := by omega
          have EM := Lib.hid eM
          have HK := Lib.hid hK
          have k1 : (K : Int) ≤ (M : Int) := by omega
          have k2 : K ≤ M := by omega
          have k3 : (K : Int) < (M : Int) + 1 := by omega
          clear hB eM eK hK
          rcases hr : decide (d0 = X) with _ | _
          · rw [hr] at hsp
            have q0 := fun w => eq_trip_is false P Q S d0 d1 d2 hsp w
            have EJ : Hid (upP (triAt xs) M (j + 1) = (bs ++ [82], z)) := Lib.hid (by rw [eJ.out, if_neg (of_decide_eq_false hr)])
            clear hr hsp
            go_upto_region 19 with fail
            have T19 := T
            go_cut [58] (fun s58 wx => s58 = .bool false ∧ Below V.heap.size V wx)
            case first =>
              go_region_held3 (fun w' => w'.cell? ⟨g, K * 3, none⟩ = some (.int .i64 d0) ∧ w'.cell? ⟨g, K * 3 + 1, none⟩ = some (.int .i64 d1) ∧ w'.cell? ⟨g, K * 3 + 2, none⟩ = some (.int .i64 d2)) (go_keep)
                (first | (go_at_call 65; refine (HO.out _).mono ?_; rintro e w2 ⟨rfl, hb2⟩; have T := (by first | exact own_trans T hb2 | exact own_trans (own_drew T) hb2 : Below V.heap.size V w2); have b0 := (hb2.cell (p := ⟨g, K * 3, none⟩) (World.block_lt_of_cell? _ _ b0)).trans b0; have b1 := (hb2.cell (p := ⟨g, K * 3 + 1, none⟩) (World.block_lt_of_cell? _ _ b1)).trans b1; have b2 := (hb2.cell (p := ⟨g, K * 3 + 2, none⟩) (World.block_lt_of_cell? _ _ b2)).trans b2))
              all_goals
                go_wp2_with fail
                go_meet
                exact ⟨rfl, T⟩
            case rest =>
              obtain ⟨rfl, T⟩ := hcut
              go_wp2
              go_roundw
              case rel => exact ⟨j + 1, by omega, by rw [EJ.out], by rw [EJ.out, HBB.out, app_byte], by rw [EM.out], T⟩
              case measure => first | (simp [intOf]; done) | (simp [intOf]; omega)
          · rw [hr] at hsp
            have q0 := fun w => eq_trip_is true P Q S d0 d1 d2 hsp w
            have EJ : Hid (upP (triAt xs) M (j + 1) = (bs ++ [76], X)) := Lib.hid (by rw [eJ.out, if_pos (of_decide_eq_true hr)])
            clear hr hsp
            go_upto_region 19 with fail
            have T19 := T
            go_cut [58] (fun s58 wx => s58 = .bool true ∧ Below V.heap.size V wx)
            case first =>
              go_region_held3 (fun w' => w'.cell? ⟨g, K * 3, none⟩ = some (.int .i64 d0) ∧ w'.cell? ⟨g, K * 3 + 1, none⟩ = some (.int .i64 d1) ∧ w'.cell? ⟨g, K * 3 + 2, none⟩ = some (.int .i64 d2)) (go_keep)
                (first | (go_at_call 65; refine (HO.out _).mono ?_; rintro e w2 ⟨rfl, hb2⟩; have T := (by first | exact own_trans T hb2 | exact own_trans (own_drew T) hb2 : Below V.heap.size V w2); have b0 := (hb2.cell (p := ⟨g, K * 3, none⟩) (World.block_lt_of_cell? _ _ b0)).trans b0; have b1 := (hb2.cell (p := ⟨g, K * 3 + 1, none⟩) (World.block_lt_of_cell? _ _ b1)).trans b1; have b2 := (hb2.cell (p := ⟨g, K * 3 + 2, none⟩) (World.block_lt_of_cell? _ _ b2)).trans b2))
              all_goals
                go_wp2_with fail
                go_meet
                exact ⟨rfl, T⟩
            case rest =>
              obtain ⟨rfl, T⟩ := hcut
              go_wp2
              go_roundw
              case rel => exact ⟨j + 1, by omega, by rw [EJ.out], by rw [EJ.out, HBB.out, app_byte], by rw [EM.out], T⟩
              case measure => first | (simp [intOf]; done) | (simp [intOf]; omega)
        · have HE : Hid (j = M) := Lib.hid (by omega)
          have hneg : (M : Int) - 1 - (j : Int) < 0 := by omega
          have HR : Hid ((upP (triAt xs) M M).1 = bs) := Lib.hid (by have := HU.out; rw [HE.out] at this; rw [this])
          go_wp2
          go_ret2
          refine ⟨by rw [HR.out]; rfl, ?_⟩
          exact T0.out.trans (T.mono T0.out.size)
end Go.Proofs.YtafmfdhogoheaaaDoor
