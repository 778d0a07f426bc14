/- spec.l02Chain: contract. -/
import Derived.Test.YtfgbmddmmgipnaaDoorFl
import Derived.Test.YtfgbmddmmgipnaaDoorRunS
import Derived.Deep.RegionLaw
namespace Go.Proofs.YtfgbmddmmgipnaaDoor
open Go.ChangeShapes Go.WideShapes Go.ChangeAt Go.RowKit

/-- 'append(xs, y)' inside a statement that draws its order. -/
theorem step_app64 {ops : Array Oper} {o : Oper} {a : Act} {W : World} {K : Act → World → Prop} {Q : Exit → Act → World → Prop} {E : Prop} (hgd : o.guard = none) (s x : Operand)
    (ho : o.op = .call { callee := .builtin .append, args := #[s, x], argTypes := #[39, 39] })
    (L : Nat) (v : Value) (xs : List Int) (y : Int) (hs : a.eval s = v) (hown : Gr W L v xs) (g : Nat) (hx : a.eval x = .slice (some ⟨g, 0, none⟩) 1 1)
    (hc : W.cell? ⟨g, 0, none⟩ = some (.int .i64 y)) (hlen : xs.length ≤ 9000000000) (hL : L ≤ W.heap.size)
    (h : ∀ v' w', Gr w' L v' (xs ++ [y]) → Below L W w' → K (a.put o.dst v') w') :
    if Region.wanted o (yielded ops a.tmps) = true then Oper.wp Tryd.prog o a W K Q else E := by
  have hw : Region.wanted o (yielded ops a.tmps) = true := by simp [Region.wanted, hgd]
  rw [if_pos hw]
  obtain ⟨i0, hi, hz0, hz1, hz2⟩ := info_parts info_i64
  refine wp_append_own _ s x 39 ho L 2 i0 (.int .i64 0) 1 8 Tryd.underlying39 hi hz0 hz1 hz2 rfl (by decide) v xs.length _ hs hown ⟨g, 0, none⟩ 1 1 [(.int .i64 y)] hx rfl ?_ ?_ ?_ ?_ ?_ ?_
  · intro j u hj
    match j, hj with
    | 0, hj => simp at hj; subst hj; simpa [Addr.add] using hc
  · intro u hu; simp at hu; subst hu; rfl
  · unfold maxLen; omega
  · omega
  · exact hL
  · intro v' w' hown' hgrow _
    refine h v' w' ?_ ?_
    · have e : (xs ++ [y]).length = xs.length + 1 := by simp
      unfold Gr
      rw [e, List.map_append]
      exact hown'
    · exact (Below.refl L W).grown hgrow hL (fun j hj => (hown.lt j hj).1)

theorem ret_first {a b : Int} {v : Value} (h : a = b) : Ending.returned (.tuple #[(.int .i64 a), v]) = Ending.returned (.tuple #[(.int .i64 b), v]) := by rw [h]
/-- A round of the chain, put together. -/
theorem ch_round {f : Nat} {a b c d : Int} (h : Det a b c d) (hf : c.natAbs ≤ f) (hc : c ≠ 0) :
    ∃ (k : Nat) (q x y : Int), f = k + 1 ∧ fl (2 * a + c) (2 * c) = q ∧ q * c - a = x ∧ q * d - b = y ∧ Ent q ∧ Ent x ∧ Ent y ∧
      Hid (chS f a b c d = chS k c d x y) ∧ Hid (chL f a b c d = q :: chL k c d x y) ∧ Hid (Det c d x y) ∧ Hid (x.natAbs ≤ k) := by
  obtain ⟨h1, h2, h3⟩ := det_next h hc
  obtain ⟨k, rfl⟩ : ∃ k, f = k + 1 := ⟨f - 1, by omega⟩
  obtain ⟨g1, g2⟩ := ch_go (f := k) (a := a) (b := b) (d := d) hc
  exact ⟨k, chq a c, _, _, rfl, rfl, rfl, rfl, h1, h2.2.2.1, h2.2.2.2.1, Lib.hid g1, Lib.hid g2, Lib.hid h2, Lib.hid (by omega)⟩
theorem specFl_is (q x y : Int) (hq : fl x y = q) (hx : Sm x) (hyb : Sm y) (hy : y ≠ 0) (w : World) :
    Calls Tryd.prog 54 #[(.int .i64 x), (.int .i64 y)] w fun e w' => e = .returned (.int .i64 q) ∧ w = w' := hq ▸ specFl_any x y hx hyb hy w
set_option maxRecDepth 100000 in
set_option maxHeartbeats 4000000 in
theorem specChain_any (F : Nat) (a0 b0 c0 d0 : Int) (hp : Det a0 b0 c0 d0) (hf : c0.natAbs ≤ F) (hF : F ≤ 1000000000) (w : World) :
    Calls Tryd.prog 33 #[(.agg #[.int .i64 a0, .int .i64 b0, .int .i64 c0, .int .i64 d0])] w fun e w' => ∃ v, e = .returned (.tuple #[(.int .i64 (chS F a0 b0 c0 d0)), v]) ∧ Gr w' (w.heap.size + 1) v (chL F a0 b0 c0 d0) ∧ Below w.heap.size w w' := by
  have HP0 := Lib.hid hp
  clear hp
  go_enter Tryd.func33, Tryd.ntmps33
  go_wp2
  go_loopw [4] (fun v wr => ∃ (done : List Int) (f : Nat) (a b c d : Int), Hid (chS F a0 b0 c0 d0 = chS f a b c d) ∧ Hid (chL F a0 b0 c0 d0 = done ++ chL f a b c d) ∧ Hid (Det a b c d) ∧ Hid (c.natAbs ≤ f) ∧ f + done.length ≤ F ∧ RS w wr v done a b c d) (fun v _ => F - lenOf v)
  case atStart => exact ⟨[], F, a0, b0, c0, d0, Lib.hid rfl, Lib.hid rfl, HP0, Lib.hid hf, by first | (simp; done) | exact Nat.le_refl _, by repeat (first | with_reducible exact own_refl _ | with_reducible assumption | with_reducible apply own_alloc | with_reducible apply own_drewN | with_reducible apply own_drew | ((with_reducible refine own_setCell ?_ ?_ _); rotate_left; focus (first | (simp; done) | (simp; omega))) | (with_reducible (refine own_trans ?_ (by assumption)))), by first | (simp; done) | exact Nat.le_refl _, Gr.madeAt (by simp) (Nat.le_refl _), Box.alloc (Box.new _ _ _) _⟩
  case round =>
    obtain ⟨done, f, a, b, c, d, HS, HL, HD, HF, hlen, T, hz, hG, hB⟩ := hrel
    obtain ⟨ad, cap, hv⟩ := hG.shape
    subst hv
    obtain ⟨_, m0, m1, m2, m3, _, _, _, _⟩ := hB.four
    by_cases hc : c = 0
    · subst hc
      obtain ⟨hu, he⟩ := det_last HD.out
      obtain ⟨z, hz1⟩ : ∃ z, a * b = z := ⟨_, rfl⟩
      rw [hz1] at he
      have HZ := Lib.hid hz1
      have heb : -1000000000 ≤ z ∧ z ≤ 1000000000 := he
      go_upto_region 6 with fail
      have HWZ := Lib.hid (show IntKind.i64.wrap z = z by rw [IntKind.wrap_i64]; omega)
      go_region_law (refine step_app64 (by rfl) _ _ (by rfl) (w.heap.size + 1) (.slice ad done.length cap) done (IntKind.i64.wrap z) (by rfl) (by first | exact (hG.alloc _).drew | exact hG.drew.alloc _) wr.heap.size (by rfl) (by first | (simp; done) | exact World.cell?_alloc_at _ _ _ _ rfl) (by omega) (by have := hz; simp [World.size_alloc]; omega) ?_; intro v' w1 hG1 hb1; have B1 := Box.low (Box.drew (Box.alloc hB _)) hb1 (Nat.lt_succ_self _); obtain ⟨_, _, _, _, _, _, _, _, _⟩ := B1.four)
      all_goals
        have hG2 : Gr w1 (w.heap.size + 1) v' (done ++ [z]) := by have := hG1; rwa [HWZ.out] at this
        have T2 : Below w.heap.size w w1 := (own_drew (own_alloc T _)).trans (hb1.mono (Nat.le_succ _))
        clear hG1 hb1 B1 hG hB T
        obtain ⟨ad', cap', hv'⟩ := hG2.shape
        subst hv'
        go_wp2
        go_ret2
        refine ⟨_, ret_first (by rw [HS.out]; exact ch_end.1.symm), ?_, T2⟩
        rw [HL.out, ch_end.2, HZ.out]
        exact hG2
    · obtain ⟨ea, eb, ec, ed, _⟩ := HD.out
      obtain ⟨k, q, x, y, hfk, hq, hx, hy, eq, ex, ey, H1, H2, H3, H4⟩ := ch_round HD.out HF.out hc
      have HQ := Lib.hid hq
      have HK := Lib.hid hfk
      unfold Ent at ea eb ec ed eq ex ey
      have hc' : (c == 0) = false := by simpa using hc
      have s1 : Sm (2 * a + c) := by unfold Sm; omega
      have s2 : Sm (2 * c) := by unfold Sm; omega
      have hqc : -2000000000 ≤ q * c ∧ q * c ≤ 2000000000 := by omega
      have hqd : -2000000000 ≤ q * d ∧ q * d ≤ 2000000000 := by omega
      have s3 : 2 * c ≠ 0 := by omega
      have S3 := Lib.hid s3
      clear hq hfk hc s3
      go_wp2_with fail
      refine (specFl_is q (2 * a + c) (2 * c) HQ.out s1 s2 S3.out _).mono ?_
      rintro e w2 ⟨rfl, rfl⟩
      go_wp2_with (at_builtin; refine app64 rfl _ _ rfl (w.heap.size + 1) wr (.slice ad done.length cap) done q rfl hG wr.heap.size rfl rfl (by omega) hz ?_; intro v' w1 hG1 hb1; have B1 := hB.low hb1 (Nat.lt_succ_self _); obtain ⟨_, _, _, _, _, _, _, _, _⟩ := B1.four)
      go_roundw
      case rel => exact ⟨done ++ [q], k, c, d, x, y, Lib.hid (by rw [HS.out, H1.out]), Lib.hid (by rw [HL.out, H2.out]; simp), H3, H4, by have := HK.out; simp; omega, by have T1 := T.trans (hb1.mono (Nat.le_succ _)); repeat (first | with_reducible exact own_refl _ | with_reducible assumption | with_reducible apply own_alloc | with_reducible apply own_drewN | with_reducible apply own_drew | ((with_reducible refine own_setCell ?_ ?_ _); rotate_left; focus (first | (simp; done) | (simp; omega))) | (with_reducible (refine own_trans ?_ (by assumption)))), by simpa [World.setCell] using Nat.le_trans hz hb1.size, (((hG1.set (Nat.lt_succ_self _) _).set (Nat.lt_succ_self _) _).set (Nat.lt_succ_self _) _).set (Nat.lt_succ_self _) _, B1.put4 _ _ _ _⟩
      case measure => rw [hG1.len]; have := HK.out; simp [lenOf]; omega
end Go.Proofs.YtfgbmddmmgipnaaDoor
