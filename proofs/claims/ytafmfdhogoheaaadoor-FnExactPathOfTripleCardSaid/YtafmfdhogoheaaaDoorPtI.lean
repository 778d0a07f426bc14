/- spellSteps: the letters of the triples on the way up. -/
import Derived.Test.YtafmfdhogoheaaaDoorRvT
import Derived.Test.YtafmfdhogoheaaaDoorCvB
import Derived.Test.YtafmfdhogoheaaaDoorIsT
namespace Go.Proofs.YtafmfdhogoheaaaDoor
open Go.ChangeShapes Go.WideShapes Go.ChangeAt Go.RowKit

theorem sliceT2 (g n cap : Nat) (h : 3 ≤ n) (hc : n ≤ cap) (w : World) : Sem.run Tryd.prog (Instr.slice 22 (.slice (some ⟨g, 0, none⟩) n cap) (some (.int .i64 2)) none none) w = .ok (.slice (some ⟨g, 6, none⟩) (n - 2) (cap - 2)) w := by
  have h3 : cap ≠ 2 := by omega
  simp [Instr.slice, Instr.sliceBounds, Instr.sliceBound, asIntOf, go_sem, h3]
  intro h; omega
theorem sliceT1 (g m c : Nat) (hc : m + 1 ≤ c) : ∃ A : Option Addr, (0 < m → A = some ⟨g, 9, none⟩) ∧ ∀ w : World, Sem.run Tryd.prog (Instr.slice 22 (.slice (some ⟨g, 6, none⟩) (m + 1) c) (some (.int .i64 1)) none none) w = .ok (.slice A m (c - 1)) w := by
  by_cases hm : c = 1
  · refine ⟨some ⟨g, 6, none⟩, fun h => by omega, fun w => ?_⟩
    obtain rfl : m = 0 := by omega
    subst hm
    simp [Instr.slice, Instr.sliceBounds, Instr.sliceBound, asIntOf, go_sem]
  · refine ⟨some ⟨g, 9, none⟩, fun _ => rfl, fun w => ?_⟩
    simp [Instr.slice, Instr.sliceBounds, Instr.sliceBound, asIntOf, go_sem, hm]
    try (intro h; omega)
theorem nums_snoc (l : List UInt8) (c : UInt8) : nums (l ++ [c]) = nums l ++ [(c.toNat : Int)] := by simp [nums]
theorem upP_step (D : Nat → Trp) (m j : Nat) (c : UInt8) (x : Int) (h : letP D (m - (j + 1)) (upP D m j).2 = (c, x)) : upP D m (j + 1) = ((upP D m j).1 ++ [c], x) := by
  rw [upP, h]
theorem triple_at {w : World} {g n : Nat} {f : Nat → Trp} (h : RowT w g n f) (k o : Nat) (hk : k < n) (ho : o = k * 3) :
    w.cell? ⟨g, o, none⟩ = some (.int .i64 ((f k).x)) ∧ w.cell? ⟨g, o + 1, none⟩ = some (.int .i64 ((f k).y)) ∧ w.cell? ⟨g, o + 2, none⟩ = some (.int .i64 ((f k).z)) := by
  subst ho; exact (h.2 k hk).1
set_option maxHeartbeats 8000000 in
theorem spell_any (g m c : Nat) (D : Nat → Trp) (hc : m + 1 ≤ c) (hm : m ≤ 100) (hD : (D m).x = 1) (w : World) (h : RowT w g (m + 3) (fun k => D (m + 2 - k))) :
    Calls Tryd.prog 67 #[.slice (some ⟨g, 6, none⟩) (m + 1) c] w fun e w' => e = .returned (.string ⟨(upP D m m).1.toArray⟩) ∧ Below w.heap.size w w' := by
  obtain ⟨N, hN⟩ : ∃ N, m + 1 = N := ⟨_, rfl⟩
  obtain ⟨cur, hcs, hmk⟩ := makeB0 N (by omega)
  obtain ⟨A, hA, hsl⟩ := sliceT1 g m c hc
  have tt := triple_at h 2 6 (by omega) rfl
  simp only [show m + 2 - 2 = m by omega, hD] at tt
  obtain ⟨t0, t1, t2⟩ := tt
  generalize (D m).y = y0 at t1
  generalize (D m).z = z0 at t2
  rw [hN] at hsl ⊢
  have HCS := Lib.hid hcs
  have HA := Lib.hid hA
  have HH := Lib.hid h
  have HN := Lib.hid hN
  have hN1 : 1 ≤ N := by omega
  have hgl := h.1
  obtain ⟨R, hR⟩ : ∃ R : ByteArray, R = ⟨(upP D m m).1.toArray⟩ := ⟨_, rfl⟩
  rw [← hR]
  have HR := Lib.hid hR
  clear hcs hA h hD hN hR hc
  go_enter Tryd.func67, Tryd.ntmps67
  go_upto_region 2 with fail
  have G0 : GrB (w.alloc (.cells cur 5)) w.heap.size (.slice (some ⟨w.heap.size, 0, none⟩) 0 N) (nums []) := GrB.madeCap rfl (Nat.le_refl _) HCS.out (by have := HN.out; omega)
  have T0 : Below w.heap.size w (w.alloc (.cells cur 5)) := by repeat (first | with_reducible exact own_refl _ | with_reducible assumption | with_reducible apply own_alloc | with_reducible apply own_drewN | with_reducible apply own_drew | ((with_reducible refine own_setCell ?_ ?_ _); rotate_left; focus (first | (simp; done) | (simp; omega))) | (with_reducible (refine own_trans ?_ (by assumption))))
  have z0 : w.heap.size ≤ (w.alloc (.cells cur 5)).heap.size := T0.size
  have t0 := (T0.cell (p := ⟨g, 6, none⟩) hgl).trans t0
  have t1 := (T0.cell (p := ⟨g, 6 + 1, none⟩) hgl).trans t1
  have t2 := (T0.cell (p := ⟨g, 6 + 2, none⟩) hgl).trans t2
  generalize (w.alloc (.cells cur 5)) = V at *
  go_wp2_with fail
  refine (least_any _ _ _ _).mono ?_
  rintro e w1 ⟨rfl, hb1⟩
  have T1 := own_trans T0 hb1
  have G1 := G0.own hb1
  clear t0 t1 t2
  go_wp2_with fail
  go_loopw [3, 4, 17] (fun v x i wr => ∃ k : Nat, k ≤ m ∧ i = (.int .i64 k) ∧ x = (.int .i64 ((upP D m k).2)) ∧ GrB wr w.heap.size v (nums (upP D m k).1) ∧ Below w.heap.size w wr) (fun _ _ i _ => m - (intOf i).toNat)
  case atStart => exact ⟨0, Nat.zero_le _, rfl, rfl, G1, T1⟩
  case round =>
    obtain ⟨k, hk, rfl, hx, hG, T⟩ := hrel
    rcases hU : upP D m k with ⟨bs, X⟩
    rw [hU] at hx hG
    dsimp only at hx hG
    subst hx
    have HU := Lib.hid hU
    have HL : Hid (bs.length = k) := Lib.hid (by have := upP_len D m k; rw [hU] at this; exact this)
    clear hU
    obtain ⟨ad, cp, hv⟩ := hG.shape
    subst hv
    by_cases hlt : k < m
    · have hkN : k < N := by have := HN.out; omega
      obtain rfl := HA.out (by omega)
      have RT := HH.out.low T hgl
      have ta := triple_at RT (k + 3) (9 + k * 3) (by omega) (by omega)
      simp only [show m + 2 - (k + 3) = m - (k + 1) by omega] at ta
      obtain ⟨a0, a1, a2⟩ := ta
      obtain ⟨p, hp⟩ : ∃ p, (D (m - (k + 1))).x = p := ⟨_, rfl⟩
      rw [hp] at a0
      generalize (D (m - (k + 1))).y = p1 at a1
      generalize (D (m - (k + 1))).z = p2 at a2
      have hz : w.heap.size ≤ wr.heap.size := T.size
      obtain ⟨q, hq⟩ : ∃ q, (D (m - k)).z = q := ⟨_, rfl⟩
      by_cases e : p = X
      · have hqe : (p == X) = true := by simpa using e
        have HN2 : Hid (upP D m (k + 1) = (bs ++ [76], X)) := Lib.hid ((upP_step D m k 76 X (by rw [HU.out]; unfold letP; rw [hp, if_pos e])).trans (by rw [HU.out]))
        clear hp hq e RT
        go_wp2_with fail
        refine (least_any _ _ _ _).mono ?_
        rintro e w2 ⟨rfl, hb2⟩
        have G2 := (hG.alloc (.cells #[.int .i64 p, .int .i64 p1, .int .i64 p2] 36)).own hb2
        have T2 := own_trans (own_alloc T (.cells #[.int .i64 p, .int .i64 p1, .int .i64 p2] 36)) hb2
        have z2 := T2.size
        go_wp2_with (at_builtin; refine app8 rfl _ _ rfl w.heap.size w2 (.slice ad (nums bs).length cp) (nums bs) 76 rfl G2 w2.heap.size rfl rfl (by rw [show (nums bs).length = bs.length by simp [nums], HL.out]; omega) z2 ?_; intro v' w3 hG3 hb3 _)
        go_roundw
        case rel => exact ⟨k + 1, by omega, by go_num, by rw [HN2.out], by rw [HN2.out, nums_snoc]; exact hG3, T2.trans hb3⟩
        case measure => simp [intOf]; omega
      · have hqe : (p == X) = false := by simpa using e
        have HN2 : Hid (upP D m (k + 1) = (bs ++ [82], q)) := Lib.hid ((upP_step D m k 82 q (by rw [HU.out]; unfold letP; rw [hp, if_neg e, ← hq, show m - (k + 1) + 1 = m - k by omega])).trans (by rw [HU.out]))
        have HQ := Lib.hid hq
        clear hp hq e RT
        go_wp2_with fail
        refine (least_any _ _ _ _).mono ?_
        rintro e w2 ⟨rfl, hb2⟩
        have G2 := (hG.alloc (.cells #[.int .i64 p, .int .i64 p1, .int .i64 p2] 36)).own hb2
        have T2 := own_trans (own_alloc T (.cells #[.int .i64 p, .int .i64 p1, .int .i64 p2] 36)) hb2
        have z2 := T2.size
        go_upto_region 9 with (at_builtin; refine app8 rfl _ _ rfl w.heap.size w2 (.slice ad (nums bs).length cp) (nums bs) 82 rfl G2 w2.heap.size rfl rfl (by rw [show (nums bs).length = bs.length by simp [nums], HL.out]; omega) z2 ?_; intro v' w3 hG3 hb3 _)
        have T3 := T2.trans hb3
        have RT3 := HH.out.low T3 hgl
        have tb := triple_at RT3 (k + 2) (6 + k * 3) (by omega) (by omega)
        simp only [show m + 2 - (k + 2) = m - k by omega, HQ.out] at tb
        obtain ⟨b0, b1, b2⟩ := tb
        generalize (D (m - k)).x = q0 at b0
        generalize (D (m - k)).y = q1 at b1
        clear RT3
        go_wp2_with fail
        refine (greatest_any _ _ _ _).mono ?_
        rintro e w4 ⟨rfl, hb4⟩
        have G4 := hG3.own hb4
        have T4 := own_trans T3 hb4
        go_wp2
        go_roundw
        case rel => exact ⟨k + 1, by omega, by go_num, by rw [HN2.out], by rw [HN2.out, nums_snoc]; exact G4, T4⟩
        case measure => simp [intOf]; omega
    · have HE : Hid (R = ⟨bs.toArray⟩) := Lib.hid (by
        have e : k = m := by omega
        have := HU.out
        rw [e] at this
        rw [HR.out, this])
      have hcv := conv_gr hG
      go_wp2
      go_ret
      exact ⟨by rw [HE.out]; rfl, T⟩
end Go.Proofs.YtafmfdhogoheaaaDoor
