/- spec.l03Next and spec.FareyRow: contracts. -/
import Derived.Test.YtpmifhjbngocmaaRowM
import Derived.Test.YtpmifhjbngocmaaCvS
import Derived.Test.YtpmifhjbngocmaaIsF
namespace Go.Proofs.Ytpmifhjbngocmaa
open Go.ChangeShapes Go.WideShapes Go.ChangeAt Go.RowKit

set_option maxRecDepth 100000 in
set_option maxHeartbeats 2000000 in
theorem specNext (n p q r s : Int) (hR : Row n p q r s) (hne : ¬ (p = 1 ∧ q = 1)) (hn : n ≤ 1000) (w : World) :
    Calls Try.prog 37 #[(.int .i64 n), (.agg #[.int .i64 p, .int .i64 q])] w fun e w' => e = .returned (.agg #[.int .i64 r, .int .i64 s]) ∧ Below w.heap.size w w' := by
  have HR := Lib.hid hR
  have hlt := hR.lt1 hne
  obtain ⟨hrs, hr1⟩ := hR.rs hlt
  obtain ⟨_, hp0, hq1, hqn, hs1, hsn, _, hpq⟩ := hR
  have hq0 : (q == 0) = false := by simp; omega
  have A0 : Box ((w.alloc (.cells #[.int .i64 p, .int .i64 q] 31)).alloc (.cells #[.int .i64 0, .int .i64 0] 31)) w.heap.size [.int .i64 p, .int .i64 q] := Box.alloc (Box.new _ _ _) _
  have Z0 : Box ((w.alloc (.cells #[.int .i64 p, .int .i64 q] 31)).alloc (.cells #[.int .i64 0, .int .i64 0] 31)) (w.heap.size + 1) [.int .i64 0, .int .i64 0] := Box.newAt (by simp) _ _
  have T0 : Below w.heap.size w ((w.alloc (.cells #[.int .i64 p, .int .i64 q] 31)).alloc (.cells #[.int .i64 0, .int .i64 0] 31)) := by repeat (first | with_reducible exact own_refl _ | with_reducible assumption | with_reducible apply own_alloc | with_reducible apply own_drewN | with_reducible apply own_drew | ((with_reducible refine own_setCell ?_ ?_ _); rotate_left; focus (first | (simp; done) | (simp; omega))) | (with_reducible (refine own_trans ?_ (by assumption))))
  go_enter Try.func37, Try.ntmps37
  go_wp2
  generalize ((w.alloc (.cells #[.int .i64 p, .int .i64 q] 31)).alloc (.cells #[.int .i64 0, .int .i64 0] 31)) = wz at *
  obtain ⟨_, _, _, _, _⟩ := A0.two
  obtain ⟨_, _, _, _, _⟩ := Z0.two
  go_loop [5] (fun i => ∃ t : Int, s ≤ t ∧ t ≤ n ∧ i = (.int .i64 t)) (fun i => (intOf i).toNat)
  case atStart => exact ⟨n, hsn, Int.le_refl _, rfl⟩
  case round =>
    obtain ⟨t, ht1, ht2, rfl⟩ := hrel
    have hpt : 0 ≤ p * t ∧ p * t ≤ 1000 * 1000 := ⟨Int.mul_nonneg hp0 (by omega), Int.mul_le_mul (by omega) (by omega) (by omega) (by omega)⟩
    have ht0 : 0 < t := by omega
    have e1 : (1 + p * t).tmod q = (1 + p * t) % q := Int.tmod_eq_emod_of_nonneg (by omega)
    have e2 : (1 + p * t).tdiv q = (1 + p * t) / q := Int.tdiv_eq_ediv_of_nonneg (by omega)
    rcases (show s < t ∨ t = s by omega) with h | h
    · have hm : ((1 + p * t) % q == 0) = false := by simpa using HR.out.none_at h ht2
      clear e1 e2
      go_wp2
      refine ⟨⟨t - 1, by omega, by omega, rfl⟩, ?_⟩
      simp only [intOf]
      omega
    · subst h
      obtain ⟨h3, h4⟩ := HR.out.here
      have hm : ((1 + p * t) % q == 0) = true := by simpa using h3
      rw [h4] at e2
      have HR4 := Lib.hid h4
      clear e1 h3 h4
      go_wp2
      obtain ⟨_, d1, d2, _, _⟩ := (Z0.put2 (.int .i64 r) (.int .i64 t)).two
      exact bodyPost_ret (v := (.agg #[.int .i64 r, .int .i64 t])) (by simp [results, Try.results37, go_sem, d1, d2]) rfl ⟨rfl, by repeat (first | with_reducible exact own_refl _ | with_reducible assumption | with_reducible apply own_alloc | with_reducible apply own_drewN | with_reducible apply own_drew | ((with_reducible refine own_setCell ?_ ?_ _); rotate_left; focus (first | (simp; done) | (simp; omega))) | (with_reducible (refine own_trans ?_ (by assumption))))⟩
theorem muW_eq' {n p q : Int} {E : Nat} {w : World} (h : Box w E [.int .i64 p, .int .i64 q]) : rowMu n (intOf ((w.cell? ⟨E, 0, none⟩).getD undef)) (intOf ((w.cell? ⟨E, 1, none⟩).getD undef)) = rowMu n p q := by
  obtain ⟨_, h0, h1, _, _⟩ := h.two
  rw [h0, h1]
  rfl
theorem inR20 (r : Bool) (n : Int) (h : inR n 1 20 = r) (w : World) : Calls Try.prog 24 #[(.int .i64 n), (.int .i64 1), (.int .i64 20)] w fun e w' => e = .returned (.bool r) ∧ w = w' := l01In_is r n 1 20 h w
/-- What a call that makes a slice of fractions gives back. -/
def RetFw (n : Nat) (xs : List Int) (k : Int) (w : World) (e : Ending) (w' : World) : Prop :=
  ∃ v, e = .returned (.tuple #[v, (.int .i64 k)]) ∧ SlF w' w.heap.size w'.heap.size v n xs ∧ Below w.heap.size w w'
theorem GrF.oneR (w : World) (L : Nat) (hL : L ≤ w.heap.size) (y0 y1 : Int) : GrF (w.alloc (.cells #[.int .i64 y0, .int .i64 y1] 31)) L (.slice (some ⟨w.heap.size, 0, none⟩) 1 1) 1 [y0, y1] :=
  World.ownsRow_lit w #[.int .i64 y0, .int .i64 y1] 1 hL (by unfold maxLen; omega) rfl
set_option maxHeartbeats 1000000 in
theorem specFarey_no (n : Int) (h : inR n 1 20 = false) (w : World) : Calls Try.prog 18 #[(.int .i64 n)] w (RetFw 0 [] 2 w) := by
  have H := Lib.hid h
  clear h
  go_enter Try.func18, Try.ntmps18
  go_wp2_with fail
  refine (inR20 false _ H.out _).mono ?_
  rintro e w1 ⟨rfl, rfl⟩
  go_wp2
  go_ret2
  exact ⟨_, rfl, SlF.nil _ _ _ (Nat.le_refl _), by repeat (first | with_reducible exact own_refl _ | with_reducible assumption | with_reducible apply own_alloc | with_reducible apply own_drewN | with_reducible apply own_drew | ((with_reducible refine own_setCell ?_ ?_ _); rotate_left; focus (first | (simp; done) | (simp; omega))) | (with_reducible (refine own_trans ?_ (by assumption))))⟩
/-- What the model keeps between two steps. -/
def SW (w wr : World) (v : Value) (g : Nat) (pre : List (Int × Int)) (p q : Int) : Prop :=
  Below w.heap.size w wr ∧ GrF wr w.heap.size v (pre.length + 1) (flatQ (pre ++ [(p, q)])) ∧ Box wr g [.int .i64 p, .int .i64 q] ∧ w.heap.size < g ∧ ∀ g', v.ownBlock = some g' → g' ≠ g
set_option maxRecDepth 100000 in
set_option maxHeartbeats 4000000 in
theorem specFarey_yes (n : Int) (h1 : 1 ≤ n) (h2 : n ≤ 20) (w : World) : Calls Try.prog 18 #[(.int .i64 n)] w (RetFw (rowAll n).length (flatQ (rowAll n)) 0 w) := by
  have H := Lib.hid (show inR n 1 20 = true from decide_eq_true ⟨h1, h2⟩)
  have hlen := rowAll_len h1 h2
  go_enter Try.func18, Try.ntmps18
  go_wp2_with fail
  refine (inR20 true _ H.out _).mono ?_
  rintro e w1 ⟨rfl, rfl⟩
  go_wp2
  go_loopw [4, 5] (fun v a wr => ∃ (pre : List (Int × Int)) (p q r s : Int) (g : Nat), a = .pointer (some ⟨g, 0, none⟩) ∧ Hid (RowSt n pre p q r s) ∧ SW w wr v g pre p q) (fun _ a wr => match a with | .pointer (some x) => rowMu n (intOf ((wr.cell? ⟨x.block, 0, none⟩).getD undef)) (intOf ((wr.cell? ⟨x.block, 1, none⟩).getD undef)) | _ => 0)
  case atStart =>
    refine ⟨[], 0, 1, 1, n, w.heap.size + 1, rfl, Lib.hid (RowSt.start h1), by repeat (first | with_reducible exact own_refl _ | with_reducible assumption | with_reducible apply own_alloc | with_reducible apply own_drewN | with_reducible apply own_drew | ((with_reducible refine own_setCell ?_ ?_ _); rotate_left; focus (first | (simp; done) | (simp; omega))) | (with_reducible (refine own_trans ?_ (by assumption)))), GrF.alloc (GrF.oneR w w.heap.size (Nat.le_refl _) 0 1) _, Box.newAt (by simp) _ _, by omega, fun g' e => ?_⟩
    simp [Value.ownBlock] at e; omega
  case round =>
    obtain ⟨pre, p, q, r, s, g, rfl, HS, T, hG, hB, hg, hown⟩ := hrel
    obtain ⟨ad, cap, hv⟩ := hG.shape
    subst hv
    obtain ⟨_, _, _, _, _⟩ := hB.two
    have hpl : pre.length + 1 ≤ 402 := by have := HS.out.pre.length_le; rw [List.length_append, List.length_singleton] at this; omega
    have heq : ∀ w, (Op.equalIn 10000 31 (.agg #[.int .i64 p, .int .i64 q]) (.agg #[.int .i64 1, .int .i64 1])).run Try.prog w = .ok (decide (p = 1 ∧ q = 1)) w := fun w => eq_fr p q 1 1 w
    by_cases hone : p = 1 ∧ q = 1
    · have heq' : ∀ w, (Op.equalIn 10000 31 (.agg #[.int .i64 p, .int .i64 q]) (.agg #[.int .i64 1, .int .i64 1])).run Try.prog w = .ok true w := fun w => by rw [heq w, decide_eq_true hone]
      have HF := Lib.hid (HS.out.fin hone)
      clear heq hone
      go_wp2
      go_ret2
      refine ⟨_, rfl, ?_, T⟩
      rw [HF.out, List.length_append, List.length_singleton]
      exact hG.sl
    · have heq' : ∀ w, (Op.equalIn 10000 31 (.agg #[.int .i64 p, .int .i64 q]) (.agg #[.int .i64 1, .int .i64 1])).run Try.prog w = .ok false w := fun w => by rw [heq w, decide_eq_false hone]
      have HNX := Lib.hid (fun w => specNext n p q r s HS.out.row hone (by omega) w)
      have HST := Lib.hid (HS.out.step hone)
      have HMU := Lib.hid (HS.out.row.mu (HS.out.row.lt1 hone))
      clear heq hone
      go_wp2_with fail
      refine (HNX.out _).mono ?_
      rintro e w2 ⟨rfl, hb2⟩
      have T2 := own_trans T hb2
      have G2 := hG.own hb2
      have B2 := hB.below hb2
      obtain ⟨_, _, _, _, _⟩ := B2.two
      have B3 := B2.put2 (.int .i64 r) (.int .i64 s)
      have G3 := (G2.far (p := ⟨g, 0, none⟩) hown (.int .i64 r)).far (p := ⟨g, 1, none⟩) hown (.int .i64 s)
      have T3 : Below w.heap.size w ((w2.setCell ⟨g, 0, none⟩ (.int .i64 r)).setCell ⟨g, 1, none⟩ (.int .i64 s)) := own_setCell (own_setCell T2 (by dsimp only; omega) _) (by dsimp only; omega) _
      go_upto_region 7 with fail
      generalize ((w2.setCell ⟨g, 0, none⟩ (.int .i64 r)).setCell ⟨g, 1, none⟩ (.int .i64 s)) = wy at *
      obtain ⟨_, _, _, _, _⟩ := B3.two
      go_wp2_with (at_builtin; refine appFk rfl _ _ rfl w.heap.size wy (.slice ad (pre.length + 1) cap) (pre.length + 1) (flatQ (pre ++ [(p, q)])) r s rfl G3 wy.heap.size rfl rfl (by omega) T3.size ?_; intro v' w6 hG6 hb6 hs6 hk6; have B6 := B3.of_heapS (hk6 g B3.1 hown) hs6; obtain ⟨_, _, _, _, _⟩ := B6.two)
      have BN : Box (w6.alloc (.cells #[.int .i64 r, .int .i64 s] 31)) w6.heap.size [.int .i64 r, .int .i64 s] := Box.new _ _ _
      refine ⟨⟨pre ++ [(p, q)], r, s, _, _, w6.heap.size, rfl, HST, own_alloc (T3.trans hb6) _, ?_, BN, by have := T3.size; omega, fun g' e => ?_⟩, ?_⟩
      · rw [flatQ_snoc, List.length_append, List.length_singleton]
        exact GrF.alloc hG6 _
      · have := (hG6.lt g' e).2; omega
      · have h1 := muW_eq' (n := n) BN
        have h2 := muW_eq' (n := n) hB
        simp only at h1 h2 ⊢
        rw [h1, h2]
        exact HMU.out
end Go.Proofs.Ytpmifhjbngocmaa
