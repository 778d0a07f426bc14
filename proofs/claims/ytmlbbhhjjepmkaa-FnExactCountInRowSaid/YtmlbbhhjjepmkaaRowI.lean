/- impl.row: the iterator's contract. -/
import Derived.Test.YtmlbbhhjjepmkaaRowM
import Derived.Test.YtmlbbhhjjepmkaaOwnC
import Derived.Test.YtmlbbhhjjepmkaaIsF
namespace Go.Proofs.Ytmlbbhhjjepmkaa
open Go.ChangeShapes Go.WideShapes Go.ChangeAt Go.RowKit Go.Shelf
attribute [local go_sem] Oper.semAt_some

/-- the fraction in two cells, for the measure -/
def muW (n : Int) (E : Nat) (w : World) : Nat := rowMu n (intOf ((w.cell? ⟨E, 0, none⟩).getD undef)) (intOf ((w.cell? ⟨E, 1, none⟩).getD undef))
theorem muW_eq {n p q : Int} {E : Nat} {w : World} (h : Box w E [.int .i64 p, .int .i64 q]) : muW n E w = rowMu n p q := by
  obtain ⟨_, h0, h1, _, _⟩ := h.two
  unfold muW
  rw [h0, h1]
  rfl
set_option maxRecDepth 100000 in
set_option maxHeartbeats 4000000 in
theorem rowSeq (n : Int) (h1 : 1 ≤ n) (h2 : n ≤ 1000) (cb : Nat) (Kb : Nat → Prop) (hk : Kb cb) (w0 : World) (hB : Box w0 cb [(.int .i64 n)]) :
    SeqC Try.prog 20 #[.pointer (some ⟨cb, 0, none⟩)] encF Kb (fun pre x => ∃ r s, RowSt n pre x.1 x.2 r s) (fun ys => ys = rowAll n) (fun pre => pre <+: rowAll n) w0 := by
  intro l J Jx W hW hJ hJx hY h0
  have hro : Fence.wide.round = none := rfl
  refine callsIn_of_wp Try.func20 rfl trivial ?_ hro
  simp only [Try.ntmps20, List.size_toArray, List.length_cons, List.length_nil, Nat.reduceAdd, Nat.reduceSub, Array.replicate_succ, Array.replicate_zero, List.push_toArray, List.append_toArray, List.nil_append, List.cons_append]
  have hBW := hB.below hW
  obtain ⟨hcW, hb1, hb2⟩ := hBW.one
  gi_upto_region 0 with fail
  gi_cut [3, 4] from 6 (fun s3 s4 wx => ∃ e3 e4 : Nat, s3 = .pointer (some ⟨e3, 0, none⟩) ∧ s4 = .pointer (some ⟨e4, 0, none⟩) ∧ ((e3 = W.heap.size ∧ e4 = W.heap.size + 1) ∨ (e3 = W.heap.size + 1 ∧ e4 = W.heap.size)) ∧ J [] wx ∧ W.heap.size + 2 ≤ wx.heap.size ∧ Box wx cb [(.int .i64 n)] ∧
      Box wx e3 [.int .i64 0, .int .i64 1] ∧ Box wx e4 [.int .i64 1, .int .i64 n])
  case first =>
    refine wpIn_wide.2 ?_
    go_region
    · gi_wp2
      gi_meet
      exact ⟨_, _, rfl, rfl, .inl ⟨rfl, rfl⟩, hJ.drew (hJ.alloc (hJ.alloc h0 _) _), by simp, Box.drew ((hBW.alloc _).alloc _), Box.drew (Box.alloc (Box.new _ _ _) _), Box.drew (Box.newAt (by simp) _ _)⟩
    · gi_wp2
      gi_meet
      exact ⟨_, _, rfl, rfl, .inr ⟨rfl, rfl⟩, hJ.drew (hJ.alloc (hJ.alloc h0 _) _), by simp, Box.drew ((hBW.alloc _).alloc _), Box.drew (Box.newAt (by simp) _ _), Box.drew (Box.alloc (Box.new _ _ _) _)⟩
  case rest =>
    obtain ⟨e3, e4, rfl, rfl, he, hJ0, hz0, hB0, B30, B40⟩ := hcut
    have hk3 : e3 = W.heap.size ∨ e3 = W.heap.size + 1 := by omega
    have hk4 : e4 = W.heap.size ∨ e4 = W.heap.size + 1 := by omega
    have hne34 : e3 ≠ e4 := by omega
    have hcb : cb ≠ e3 ∧ cb ≠ e4 := by have := hB0.1; omega
    gi_wp2
    gi_loopw [5] (fun _ wr => ∃ (pre : List (Int × Int)) (p q r s : Int), Hid (RowSt n pre p q r s) ∧ J pre wr ∧ W.heap.size + 2 ≤ wr.heap.size ∧ Box wr cb [(.int .i64 n)] ∧ Box wr e3 [.int .i64 p, .int .i64 q] ∧ Box wr e4 [.int .i64 r, .int .i64 s]) (fun _ wr => muW n e3 wr)
    case atStart => exact ⟨[], 0, 1, 1, n, Lib.hid (RowSt.start h1), hJ0, hz0, hB0, B30, B40⟩
    case round =>
      obtain ⟨pre, p, q, r, s, HS, hJp, hz, hB1, B3, B4⟩ := hrel
      obtain ⟨_, _, _, _, _⟩ := B3.two
      obtain ⟨fn, tmps, assign, body, hy, hR⟩ := hY pre (p, q) wr hJp hz ⟨r, s, HS.out⟩
      simp only [encF] at hy
      have heq : ∀ w, (Op.equalIn 10000 45 (.agg #[.int .i64 p, .int .i64 q]) (.agg #[.int .i64 1, .int .i64 1])).run Try.prog w = .ok (decide (p = 1 ∧ q = 1)) w := fun w => eq_fr p q 1 1 w
      gi_wp2
      refine hR.mono ?_
      rintro e W3 (⟨rfl, hJ3, hz3, hk3'⟩ | ⟨rfl, hJx3⟩)
      · have B33 := B3.of_heap (hk3' _ (.inr hk3) B3.1) hz3
        have B43 := B4.of_heap (hk3' _ (.inr hk4) B4.1) hz3
        have hB3 := hB1.of_heap (hk3' _ (.inl hk) hB1.1) hz3
        obtain ⟨_, _, _, _, _⟩ := B33.two
        obtain ⟨_, _, _, _, _⟩ := B43.two
        obtain ⟨_, _, _⟩ := hB3.one
        have hz4 : W.heap.size + 2 ≤ W3.heap.size := by omega
        by_cases hone : p = 1 ∧ q = 1
        · have heq' : ∀ w, (Op.equalIn 10000 45 (.agg #[.int .i64 p, .int .i64 q]) (.agg #[.int .i64 1, .int .i64 1])).run Try.prog w = .ok true w := fun w => by rw [heq w, decide_eq_true hone]
          have HF := Lib.hid (HS.out.fin hone)
          clear heq hone
          gi_wp2
          go_end0
          exact ⟨⟨_, rfl⟩, .inl ⟨_, HF.out.symm, hJ3⟩⟩
        · have heq' : ∀ w, (Op.equalIn 10000 45 (.agg #[.int .i64 p, .int .i64 q]) (.agg #[.int .i64 1, .int .i64 1])).run Try.prog w = .ok false w := fun w => by rw [heq w, decide_eq_false hone]
          have HN := Lib.hid hone
          have hlt := HS.out.row.lt1 hone
          have hmu := HS.out.row.mu hlt
          obtain ⟨hdet, hp0, hq1, hqn, hs1, hsn, hfar, hpq⟩ := HS.out.row
          obtain ⟨hrs, hr1⟩ := HS.out.row.rs hlt
          have hst := HS.out.step hone
          have htd : (n + q).tdiv s = (n + q) / s := Int.tdiv_eq_ediv_of_nonneg (by omega)
          have hkb1 : 0 ≤ (n + q) / s := Int.ediv_nonneg (by omega) (by omega)
          have hkb2 : (n + q) / s ≤ n + q := Int.ediv_le_self _ (by omega)
          generalize (n + q) / s = k at hst htd hkb1 hkb2
          have hkr : 0 ≤ k * r ∧ k * r ≤ 2000 * 1000 := ⟨Int.mul_nonneg hkb1 (by omega), Int.mul_le_mul (by omega) (by omega) (by omega) (by omega)⟩
          have hks : 0 ≤ k * s ∧ k * s ≤ 2000 * 1000 := ⟨Int.mul_nonneg hkb1 (by omega), Int.mul_le_mul (by omega) (by omega) (by omega) (by omega)⟩
          obtain ⟨y0, hy0⟩ : ∃ y, k * r - p = y := ⟨_, rfl⟩
          obtain ⟨y1, hy1⟩ : ∃ y, k * s - q = y := ⟨_, rfl⟩
          rw [hy0, hy1] at hst
          have HST := Lib.hid hst
          have HMU := Lib.hid hmu
          have hs0 : (s == 0) = false := by simp; omega
          have hw1 : IntKind.i64.wrap (n + q) = n + q := IntWalk.i64_in _ (by omega)
          have hw2 : IntKind.i64.wrap k = k := IntWalk.i64_in _ (by omega)
          have hw3 : wrap64 (wrap64 (k * r) - p) = y0 := by rw [IntWalk.wrap64_in (k * r) (by omega), IntWalk.wrap64_in _ (by omega), hy0]
          have hw4 : wrap64 (wrap64 (k * s) - q) = y1 := by rw [IntWalk.wrap64_in (k * s) (by omega), IntWalk.wrap64_in _ (by omega), hy1]
          clear heq hone hst hmu hdet hfar hkr hks hy0 hy1
          gi_upto_region 3 with fail
          refine wpIn_wide.2 ?_
          go_region
          have H3 : Box ((((W3.setCell ⟨e3, 0, none⟩ (.int .i64 r)).setCell ⟨e3, 1, none⟩ (.int .i64 s)).setCell ⟨e4, 0, none⟩ (.int .i64 y0)).setCell ⟨e4, 1, none⟩ (.int .i64 y1)).drew e3 [.int .i64 r, .int .i64 s] := Box.drew (((B33.put2 (.int .i64 r) (.int .i64 s)).far (p := ⟨e4, 0, none⟩) hne34 (.int .i64 y0)).far (p := ⟨e4, 1, none⟩) hne34 (.int .i64 y1))
          have H4 : Box ((((W3.setCell ⟨e3, 0, none⟩ (.int .i64 r)).setCell ⟨e3, 1, none⟩ (.int .i64 s)).setCell ⟨e4, 0, none⟩ (.int .i64 y0)).setCell ⟨e4, 1, none⟩ (.int .i64 y1)).drew e4 [.int .i64 y0, .int .i64 y1] := Box.drew (Box.put2 ((B43.far (p := ⟨e3, 0, none⟩) (Ne.symm hne34) (.int .i64 r)).far (p := ⟨e3, 1, none⟩) (Ne.symm hne34) (.int .i64 s)) (.int .i64 y0) (.int .i64 y1))
          have HB : Box ((((W3.setCell ⟨e3, 0, none⟩ (.int .i64 r)).setCell ⟨e3, 1, none⟩ (.int .i64 s)).setCell ⟨e4, 0, none⟩ (.int .i64 y0)).setCell ⟨e4, 1, none⟩ (.int .i64 y1)).drew cb [(.int .i64 n)] := Box.drew ((((hB3.far (p := ⟨e3, 0, none⟩) hcb.1 (.int .i64 r)).far (p := ⟨e3, 1, none⟩) hcb.1 (.int .i64 s)).far (p := ⟨e4, 0, none⟩) hcb.2 (.int .i64 y0)).far (p := ⟨e4, 1, none⟩) hcb.2 (.int .i64 y1))
          have HJ : J (pre ++ [(p, q)]) ((((W3.setCell ⟨e3, 0, none⟩ (.int .i64 r)).setCell ⟨e3, 1, none⟩ (.int .i64 s)).setCell ⟨e4, 0, none⟩ (.int .i64 y0)).setCell ⟨e4, 1, none⟩ (.int .i64 y1)).drew := hJ.drew (hJ.set (hJ.set (hJ.set (hJ.set hJ3 (by dsimp only; omega) (by dsimp only; omega) _) (by dsimp only; omega) (by dsimp only; omega) _) (by dsimp only; omega) (by dsimp only; omega) _) (by dsimp only; omega) (by dsimp only; omega) _)
          have HZ : W.heap.size + 2 ≤ (((((W3.setCell ⟨e3, 0, none⟩ (.int .i64 r)).setCell ⟨e3, 1, none⟩ (.int .i64 s)).setCell ⟨e4, 0, none⟩ (.int .i64 y0)).setCell ⟨e4, 1, none⟩ (.int .i64 y1)).drew).heap.size := by simpa using hz4
          generalize ((((W3.setCell ⟨e3, 0, none⟩ (.int .i64 r)).setCell ⟨e3, 1, none⟩ (.int .i64 s)).setCell ⟨e4, 0, none⟩ (.int .i64 y0)).setCell ⟨e4, 1, none⟩ (.int .i64 y1)).drew = wz at *
          gi_wp2
          go_roundw
          case rel => exact ⟨_, r, s, y0, y1, HST, HJ, HZ, HB, H3, H4⟩
          case measure => rw [muW_eq H3, muW_eq B3]; exact HMU.out
      · gi_wp2
        go_end0
        exact ⟨⟨_, rfl⟩, .inr ⟨_, HS.out.pre, hJx3⟩⟩
end Go.Proofs.Ytmlbbhhjjepmkaa
