/- impl.runsOfPositive: contract. -/
import Derived.Test.YtfgbmddmmgipnaaDoorRunM
import Derived.Test.YtfgbmddmmgipnaaDoorGr
import Derived.Test.YtfgbmddmmgipnaaDoorMul
import Derived.Test.YtfgbmddmmgipnaaDoorEqM
import Derived.Test.YtfgbmddmmgipnaaDoorPA
namespace Go.Proofs.YtfgbmddmmgipnaaDoor
open Go.ChangeShapes Go.WideShapes Go.ChangeAt Go.RowKit

set_option maxHeartbeats 400000 in
theorem powerOfT_any (k : Int) (w : World) :
    Calls Tryd.prog 57 #[(.int .i64 k)] w fun e w' => e = .returned (.agg #[.int .i64 1, .int .i64 k, .int .i64 0, .int .i64 1]) ∧ Below w.heap.size w w' := by
  go_enter Tryd.func57, Tryd.ntmps57
  go_wp2
  exact bodyPost_ret (v := (.agg #[.int .i64 1, .int .i64 k, .int .i64 0, .int .i64 1])) (by simp [results, Tryd.results57, go_sem]) rfl ⟨rfl, by repeat (first | with_reducible exact own_refl _ | with_reducible assumption | with_reducible apply own_alloc | with_reducible apply own_drewN | with_reducible apply own_drew | ((with_reducible refine own_setCell ?_ ?_ _); rotate_left; focus (first | (simp; done) | (simp; omega))) | (with_reducible (refine own_trans ?_ (by assumption))))⟩
set_option maxHeartbeats 400000 in
theorem turnAbout_any (a b c d : Int) (w : World) :
    Calls Tryd.prog 56 #[(.agg #[.int .i64 a, .int .i64 b, .int .i64 c, .int .i64 d])] w fun e w' => e = .returned (.agg #[.int .i64 d, .int .i64 c, .int .i64 b, .int .i64 a]) ∧ Below w.heap.size w w' := by
  go_enter Tryd.func56, Tryd.ntmps56
  go_wp2
  exact bodyPost_ret (v := (.agg #[.int .i64 d, .int .i64 c, .int .i64 b, .int .i64 a])) (by simp [results, Tryd.results56, go_sem]) rfl ⟨rfl, by repeat (first | with_reducible exact own_refl _ | with_reducible assumption | with_reducible apply own_alloc | with_reducible apply own_drewN | with_reducible apply own_drew | ((with_reducible refine own_setCell ?_ ?_ _); rotate_left; focus (first | (simp; done) | (simp; omega))) | (with_reducible (refine own_trans ?_ (by assumption))))⟩

/-- T^-n times a matrix. -/
theorem multiply_step (a b c d n x y : Int) (hx : a - n * c = x) (hy : b - n * d = y) (hn : Ent (-n)) (ha : Ent a) (hb : Ent b) (hc : Ent c) (hd : Ent d) (w : World) :
    Calls Tryd.prog 35 #[(.agg #[.int .i64 1, .int .i64 (-n), .int .i64 0, .int .i64 1]), (.agg #[.int .i64 a, .int .i64 b, .int .i64 c, .int .i64 d])] w fun r w' => r = .returned (.agg #[.int .i64 x, .int .i64 y, .int .i64 c, .int .i64 d]) ∧ Below w.heap.size w w' := by
  subst hx hy
  have h := multiply_ent 1 (-n) 0 1 a b c d (by unfold Ent; omega) hn (by unfold Ent; omega) (by unfold Ent; omega) ha hb hc hd w
  have e1 : 1 * a + -n * c = a - n * c := by grind
  have e2 : 1 * b + -n * d = b - n * d := by grind
  have e3 : 0 * a + 1 * c = c := by grind
  have e4 : 0 * b + 1 * d = d := by grind
  rwa [e1, e2, e3, e4] at h

theorem multiply_step' (a b c d n z x y : Int) (hz : z = -n) (hx : a - n * c = x) (hy : b - n * d = y) (hn : Ent (-n)) (ha : Ent a) (hb : Ent b) (hc : Ent c) (hd : Ent d) (w : World) :
    Calls Tryd.prog 35 #[(.agg #[.int .i64 1, .int .i64 z, .int .i64 0, .int .i64 1]), (.agg #[.int .i64 a, .int .i64 b, .int .i64 c, .int .i64 d])] w fun r w' => r = .returned (.agg #[.int .i64 x, .int .i64 y, .int .i64 c, .int .i64 d]) ∧ Below w.heap.size w w' := by
  subst hz
  exact multiply_step a b c d n x y hx hy hn ha hb hc hd w

/-- What the round keeps while its calls run. -/
def RI (w wr : World) (v : Value) (xs : List Int) (a b c d : Int) : Prop := Below w.heap.size w wr ∧ w.heap.size + 1 ≤ wr.heap.size ∧ Gr wr (w.heap.size + 1) v xs ∧ Box wr w.heap.size [.int .i64 a, .int .i64 b, .int .i64 c, .int .i64 d]
theorem RI.step {w wr w2 : World} {v : Value} {xs : List Int} {a b c d : Int} (h : RI w wr v xs a b c d) (hb : Below wr.heap.size wr w2) : RI w w2 v xs a b c d :=
  ⟨own_trans h.1 hb, Nat.le_trans h.2.1 hb.size, h.2.2.1.own hb, h.2.2.2.below hb⟩
theorem RI.drew {w wr : World} {v : Value} {xs : List Int} {a b c d : Int} (h : RI w wr v xs a b c d) : RI w wr.drew v xs a b c d := ⟨h.1.drew, h.2.1, h.2.2.1, h.2.2.2⟩
theorem RI.four {w wr : World} {v : Value} {xs : List Int} {a b c d : Int} (h : RI w wr v xs a b c d) :
    wr.cell? ⟨w.heap.size, 0, none⟩ = some (.int .i64 a) ∧ wr.cell? ⟨w.heap.size, 1, none⟩ = some (.int .i64 b) ∧ wr.cell? ⟨w.heap.size, 2, none⟩ = some (.int .i64 c) ∧ wr.cell? ⟨w.heap.size, 3, none⟩ = some (.int .i64 d) ∧
      wr.frozen? ⟨w.heap.size, 0, none⟩ = false ∧ wr.frozen? ⟨w.heap.size, 1, none⟩ = false ∧ wr.frozen? ⟨w.heap.size, 2, none⟩ = false ∧ wr.frozen? ⟨w.heap.size, 3, none⟩ = false := h.2.2.2.four.2

set_option maxHeartbeats 4000000 in
theorem implRuns_any (f : Nat) (a b c d : Int) (hp : Pos a b c d) (hf : msr a b c d ≤ f) (hf' : f ≤ 8000000001) (w : World) (hid : Idn w) :
    Calls Tryd.prog 40 #[(.agg #[.int .i64 a, .int .i64 b, .int .i64 c, .int .i64 d])] w fun e w' => ∃ v, e = .returned v ∧ Gr w' (w.heap.size + 1) v (runsF f a b c d) ∧ Below w.heap.size w w' := by
  go_enter Tryd.func40, Tryd.ntmps40
  go_wp2
  go_loopw [3] (fun v wr => ∃ (done : List Int) (f' : Nat) (a' b' c' d' : Int), runsF f a b c d = done ++ runsF f' a' b' c' d' ∧ Pos a' b' c' d' ∧ msr a' b' c' d' ≤ f' ∧ f' + done.length ≤ f ∧
      Gr wr (w.heap.size + 1) v done ∧ Below w.heap.size w wr ∧ w.heap.size + 1 ≤ wr.heap.size ∧ Box wr w.heap.size [.int .i64 a', .int .i64 b', .int .i64 c', .int .i64 d']) (fun v _ => f - lenOf v)
  case atStart => exact ⟨[], f, a, b, c, d, rfl, hp, hf, by simp, Gr.nil _ _, by repeat (first | with_reducible exact own_refl _ | with_reducible assumption | with_reducible apply own_alloc | with_reducible apply own_drewN | with_reducible apply own_drew | ((with_reducible refine own_setCell ?_ ?_ _); rotate_left; focus (first | (simp; done) | (simp; omega))) | (with_reducible (refine own_trans ?_ (by assumption)))), by simp, Box.new _ _ _⟩
  case round =>
    obtain ⟨done, f', a', b', c', d', heq, hp', hf1, hlen, hG, hb, hz, hB⟩ := hrel
    have HEQ := Lib.hid heq
    obtain ⟨_, m0, m1, m2, m3, _, _, _, _⟩ := hB.four
    obtain ⟨_, i0, i1, i2, i3⟩ := (Rd.below hid hb).four
    obtain ⟨ad, cap, hv⟩ := hG.shape
    subst hv
    rcases he : decide (a' = 1 ∧ b' = 0 ∧ c' = 0 ∧ d' = 1) with _ | _
    · have hN := eq_mat_is false a' b' c' d' 1 0 0 1 he
      obtain ⟨hd1, ha1⟩ := pos_d hp'
      obtain ⟨q0, q1, _⟩ := pos_facts hp'
      obtain ⟨q, hq⟩ : ∃ q, b' / d' = q := ⟨_, rfl⟩
      have ht : b'.tdiv d' = q := by rw [Int.tdiv_eq_ediv_of_nonneg hp'.2.1, hq]
      rw [hq] at q0 q1
      have hbl := hp'.2.2.2.2.2.1
      obtain ⟨k, x, y, hf2, hx, hy, en, ea, eb, ec, ed, H1, H2, H3⟩ := runs_round hp' hf1 he hq
      have HX := Lib.hid hx
      have HY := Lib.hid hy
      have HF := Lib.hid hf2
      clear heq hp' hf1 hq hx hy hf2 he
      go_wp2_with (at_builtin; refine app64 rfl _ _ rfl (w.heap.size + 1) wr (.slice ad done.length cap) done q rfl hG wr.heap.size rfl rfl (by omega) hz ?_; intro v' w1 hG1 hb1)
      have I : RI w w1 v' (done ++ [q]) a' b' c' d' := ⟨hb.trans (hb1.mono (by omega)), Nat.le_trans hz hb1.size, hG1, hB.low hb1 (by omega)⟩
      obtain ⟨c0, c1, c2, c3, f0, f1, f2, f3⟩ := RI.four I
      have HW : Hid (IntKind.i64.wrap (-q) = -q) := Lib.hid (by rw [IntKind.wrap_i64]; omega)
      clear hb hz hG hG1 hB hb1 hN ht m0 m1 m2 m3 i0 i1 i2 i3 hd1 ha1 q0 q1 hbl hid hp hf
      go_upto_region 5 with fail
      go_region_with
        (first
          | (go_at_call 57; refine (powerOfT_any _ _).mono ?_; rintro e w2 ⟨rfl, hb2⟩; have I := RI.step (by first | exact I | exact RI.drew I) hb2; clear hb2; obtain ⟨c0, c1, c2, c3, f0, f1, f2, f3⟩ := RI.four I)
          | (go_at_call 35; refine (multiply_step' a' b' c' d' q (IntKind.i64.wrap (-q)) x y HW.out HX.out HY.out en ea eb ec ed _).mono ?_; rintro e w2 ⟨rfl, hb2⟩; have I := RI.step (by first | exact I | exact RI.drew I) hb2; clear hb2; obtain ⟨c0, c1, c2, c3, f0, f1, f2, f3⟩ := RI.four I)
          | (go_at_call 56; refine (turnAbout_any _ _ _ _ _).mono ?_; rintro e w2 ⟨rfl, hb2⟩; have I := RI.step (by first | exact I | exact RI.drew I) hb2; clear hb2; obtain ⟨c0, c1, c2, c3, f0, f1, f2, f3⟩ := RI.four I))
      all_goals
        go_wp2_with fail
        go_roundw
        case rel => exact ⟨done ++ [q], k, d', c', y, x, by rw [HEQ.out, H1.out]; simp, H2.out, H3.out, by have := HF.out; simp; omega, (((I.2.2.1.set (Nat.lt_succ_self _) _).set (Nat.lt_succ_self _) _).set (Nat.lt_succ_self _) _).set (Nat.lt_succ_self _) _, by have := I.1; repeat (first | with_reducible exact own_refl _ | with_reducible assumption | with_reducible apply own_alloc | with_reducible apply own_drewN | with_reducible apply own_drew | ((with_reducible refine own_setCell ?_ ?_ _); rotate_left; focus (first | (simp; done) | (simp; omega))) | (with_reducible (refine own_trans ?_ (by assumption)))), by simpa [World.setCell] using Nat.succ_le_of_lt I.2.2.2.1, I.2.2.2.put4 _ _ _ _⟩
        case measure => rw [I.2.2.1.len]; have := HF.out; simp [lenOf]; omega
    · have hN := eq_mat_is true a' b' c' d' 1 0 0 1 he
      have HU := Lib.hid (of_decide_eq_true he)
      clear heq hp' hf1 he
      go_wp2
      go_ret
      refine ⟨_, rfl, ?_, by repeat (first | with_reducible exact own_refl _ | with_reducible assumption | with_reducible apply own_alloc | with_reducible apply own_drewN | with_reducible apply own_drew | ((with_reducible refine own_setCell ?_ ?_ _); rotate_left; focus (first | (simp; done) | (simp; omega))) | (with_reducible (refine own_trans ?_ (by assumption))))⟩
      obtain ⟨rfl, rfl, rfl, rfl⟩ := HU.out
      rw [HEQ.out, runsF_unit, List.append_nil]
      exact hG
end Go.Proofs.YtfgbmddmmgipnaaDoor
