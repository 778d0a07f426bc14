/- spec.l03Next and spec.FareyRow: contracts. -/
import Derived.Test.YtmlbbhhjjepmkaaDoorRowM
import Derived.Test.YtmlbbhhjjepmkaaDoorCvS
import Derived.Test.YtmlbbhhjjepmkaaDoorIsF
namespace Go.Proofs.YtmlbbhhjjepmkaaDoor
open Go.ChangeShapes Go.WideShapes Go.ChangeAt Go.RowKit

set_option maxRecDepth 100000 in
set_option maxHeartbeats 2000000 in
theorem specNext (n p q r s : Int) (hR : Row n p q r s) (hne : ¬ (p = 1 ∧ q = 1)) (hn : n ≤ 1000) (w : World) :
    Calls Tryd.prog 17 #[(.int .i64 n), (.agg #[.int .i64 p, .int .i64 q])] w fun e w' => e = .returned (.agg #[.int .i64 r, .int .i64 s]) ∧ Below w.heap.size w w' := by
  have HR := Lib.hid hR
  have hlt := hR.lt1 hne
  obtain ⟨hrs, hr1⟩ := hR.rs hlt
  obtain ⟨_, hp0, hq1, hqn, hs1, hsn, _, hpq⟩ := hR
  have hq0 : (q == 0) = false := by simp; omega
  have A0 : Box ((w.alloc (.cells #[.int .i64 p, .int .i64 q] 23)).alloc (.cells #[.int .i64 0, .int .i64 0] 23)) w.heap.size [.int .i64 p, .int .i64 q] := Box.alloc (Box.new _ _ _) _
  have Z0 : Box ((w.alloc (.cells #[.int .i64 p, .int .i64 q] 23)).alloc (.cells #[.int .i64 0, .int .i64 0] 23)) (w.heap.size + 1) [.int .i64 0, .int .i64 0] := Box.newAt (by simp) _ _
  have T0 : Below w.heap.size w ((w.alloc (.cells #[.int .i64 p, .int .i64 q] 23)).alloc (.cells #[.int .i64 0, .int .i64 0] 23)) := by repeat (first | with_reducible exact own_refl _ | with_reducible assumption | with_reducible apply own_alloc | with_reducible apply own_drewN | with_reducible apply own_drew | ((with_reducible refine own_setCell ?_ ?_ _); rotate_left; focus (first | (simp; done) | (simp; omega))) | (with_reducible (refine own_trans ?_ (by assumption))))
  go_enter Tryd.func17, Tryd.ntmps17
  go_wp2
  generalize ((w.alloc (.cells #[.int .i64 p, .int .i64 q] 23)).alloc (.cells #[.int .i64 0, .int .i64 0] 23)) = wz at *
  obtain ⟨_, _, _, _, _⟩ := A0.two
  obtain ⟨_, _, _, _, _⟩ := Z0.two
  go_loop [5] (fun i => ∃ t : Int, s ≤ t ∧ t ≤ n ∧ i = (.int .i64 t)) (fun i => (intOf i).toNat)
  case atStart => exact ⟨n, hsn, Int.le_refl _, rfl⟩
  case round =>
    obtain ⟨t, ht1, ht2, rfl⟩ := hrel
    have hpt : 0 ≤ p * t ∧ p * t ≤ 1000 * 1000 := ⟨Int.mul_nonneg hp0 (by omega), Int.mul_le_mul (by omega) (by omega) (by omega) (by omega)⟩
    have ht0 : 0 < t := by omega
    have e1 : (1 + p * t).tmod q = (1 + p * t) % q := Int.tmod_eq_emod_of_nonneg (by omega)
    have e2 : (1 + p * t).tdiv q = (1 + p * t) / q := Int.tdiv_eq_ediv_of_nonneg (by omega)
    rcases (show s < t ∨ t = s by omega) with h | h
    · have hm : ((1 + p * t) % q == 0) = false := by simpa using HR.out.none_at h ht2
      clear e1 e2
      go_wp2
      refine ⟨⟨t - 1, by omega, by omega, rfl⟩, ?_⟩
      simp only [intOf]
      omega
    · subst h
      obtain ⟨h3, h4⟩ := HR.out.here
      have hm : ((1 + p * t) % q == 0) = true := by simpa using h3
      rw [h4] at e2
      have HR4 := Lib.hid h4
      clear e1 h3 h4
      go_wp2
      obtain ⟨_, d1, d2, _, _⟩ := (Z0.put2 (.int .i64 r) (.int .i64 t)).two
      exact bodyPost_ret (v := (.agg #[.int .i64 r, .int .i64 t])) (by simp [results, Tryd.results17, go_sem, d1, d2]) rfl ⟨rfl, by repeat (first | with_reducible exact own_refl _ | with_reducible assumption | with_reducible apply own_alloc | with_reducible apply own_drewN | with_reducible apply own_drew | ((with_reducible refine own_setCell ?_ ?_ _); rotate_left; focus (first | (simp; done) | (simp; omega))) | (with_reducible (refine own_trans ?_ (by assumption))))⟩
theorem muW_eq' {n p q : Int} {E : Nat} {w : World} (h : Box w E [.int .i64 p, .int .i64 q]) : rowMu n (intOf ((w.cell? ⟨E, 0, none⟩).getD undef)) (intOf ((w.cell? ⟨E, 1, none⟩).getD undef)) = rowMu n p q := by
  obtain ⟨_, h0, h1, _, _⟩ := h.two
  rw [h0, h1]
  rfl
theorem inR20 (r : Bool) (n : Int) (h : inR n 1 20 = r) (w : World) : Calls Tryd.prog 16 #[(.int .i64 n), (.int .i64 1), (.int .i64 20)] w fun e w' => e = .returned (.bool r) ∧ w = w' := l01In_is r n 1 20 h w
/-- What a call that makes a slice of fractions gives back. -/
def RetFw (n : Nat) (xs : List Int) (k : Int) (w : World) (e : Ending) (w' : World) : Prop :=
  ∃ v, e = .returned (.tuple #[v, (.int .i64 k)]) ∧ SlF w' w.heap.size w'.heap.size v n xs ∧ Below w.heap.size w w'
theorem GrF.oneR (w : World) (L : Nat) (hL : L ≤ w.heap.size) (y0 y1 : Int) : GrF (w.alloc (.cells #[.int .i64 y0, .int .i64 y1] 23)) L (.slice (some ⟨w.heap.size, 0, none⟩) 1 1) 1 [y0, y1] :=
  World.ownsRow_lit w #[.int .i64 y0, .int .i64 y1] 1 hL (by unfold maxLen; omega) rfl
/-- What the model keeps between two steps. -/
def SW (w wr : World) (v : Value) (g : Nat) (pre : List (Int × Int)) (p q : Int) : Prop :=
  Below w.heap.size w wr ∧ GrF wr w.heap.size v (pre.length + 1) (flatQ (pre ++ [(p, q)])) ∧ Box wr g [.int .i64 p, .int .i64 q] ∧ w.heap.size < g ∧ ∀ g', v.ownBlock = some g' → g' ≠ g
end Go.Proofs.YtmlbbhhjjepmkaaDoor
