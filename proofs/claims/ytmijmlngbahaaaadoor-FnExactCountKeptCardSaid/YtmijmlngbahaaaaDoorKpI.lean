/- CountKept: contracts of both sides. -/
import Derived.Test.YtmijmlngbahaaaaDoorKep
import Derived.Test.YtmijmlngbahaaaaDoorNamed
import Derived.OwnWalk
namespace Go.Proofs.YtmijmlngbahaaaaDoor
open Go.ChangeShapes Go.WideShapes Go.ChangeAt Go.RowKit

theorem nm_S {w : World} {b : Nat} (h : LMn w 67 9 b namedF 5) : (Instr.lookup 67 (.map (some b)) (.string ⟨#[83]⟩) false).run Tryd.prog w = .ok (.agg #[.int .i64 0, .int .i64 (-1), .int .i64 1, .int .i64 0]) w := by
  have k := h.look1 str_keyed (.string ⟨#[83]⟩) _ (str_key ⟨#[83]⟩ (by decide))
  rw [show namedF (.string (⟨#[83]⟩ : ByteArray).data.toList) = some ⟨0, -1, 1, 0⟩ by simp [namedF]] at k
  exact k
theorem nm_U {w : World} {b : Nat} (h : LMn w 67 9 b namedF 5) : (Instr.lookup 67 (.map (some b)) (.string ⟨#[85]⟩) false).run Tryd.prog w = .ok (.agg #[.int .i64 1, .int .i64 (-1), .int .i64 1, .int .i64 0]) w := by
  have k := h.look1 str_keyed (.string ⟨#[85]⟩) _ (str_key ⟨#[85]⟩ (by decide))
  rw [show namedF (.string (⟨#[85]⟩ : ByteArray).data.toList) = some ⟨1, -1, 1, 0⟩ by simp [namedF]] at k
  exact k
theorem implKp_no (n : Int) (hn : inR n 1 60 = false) (w : World) : Calls Tryd.prog 14 #[(.int .i64 n)] w fun e w' => e = .returned (.tuple #[(.int .i64 0), (.int .i64 0), (.int .i64 2)]) ∧ Below w.heap.size w w' := by
  have HN := Lib.hid hn
  clear hn
  go_enter Tryd.func14, Tryd.ntmps14
  go_wp2_with fail
  refine (isLevel_is false _ HN.out _).mono ?_
  rintro e w2 ⟨rfl, rfl⟩
  go_wp2
  go_ret3
  exact ⟨rfl, by repeat (first | with_reducible exact own_refl _ | with_reducible assumption | with_reducible apply own_alloc | with_reducible apply own_drewN | with_reducible apply own_drew | ((with_reducible refine own_setCell ?_ ?_ _); rotate_left; focus (first | (simp; done) | (simp; omega))) | (with_reducible (refine own_trans ?_ (by assumption))))⟩
theorem specKp_no (n : Int) (hn : inR n 1 60 = false) (w : World) : Calls Tryd.prog 13 #[(.int .i64 n)] w fun e w' => e = .returned (.tuple #[(.int .i64 0), (.int .i64 0), (.int .i64 2)]) ∧ Below w.heap.size w w' := by
  have HN := Lib.hid hn
  clear hn
  go_enter Tryd.func13, Tryd.ntmps13
  go_wp2_with fail
  refine (l01In_is false _ _ _ HN.out _).mono ?_
  rintro e w2 ⟨rfl, rfl⟩
  go_wp2
  go_ret3
  exact ⟨rfl, by repeat (first | with_reducible exact own_refl _ | with_reducible assumption | with_reducible apply own_alloc | with_reducible apply own_drewN | with_reducible apply own_drew | ((with_reducible refine own_setCell ?_ ?_ _); rotate_left; focus (first | (simp; done) | (simp; omega))) | (with_reducible (refine own_trans ?_ (by assumption))))⟩
theorem specKp_yes (n : Int) (hn : inR n 1 60 = true) (N : Nat) (hN : (ln n).length = N) (w : World) : Calls Tryd.prog 13 #[(.int .i64 n)] w fun e w' => e = .returned (.tuple #[(.int .i64 ((cntF (ledL n 0 (-1) 1 0 (ln n)) N : Int))), (.int .i64 ((cntF (ledL n 1 (-1) 1 0 (ln n)) N : Int))), (.int .i64 0)]) ∧ Below w.heap.size w w' := by
  have HN := Lib.hid hn
  have hn' : 1 ≤ n ∧ n ≤ 60 := of_decide_eq_true hn
  have HL := Lib.hid (fun w => l06Line_is n hn'.1 hn'.2 w)
  have HK := Lib.hid (fun v L w hG => l06Kept_is n hn'.1 hn'.2 v L w hG N hN)
  generalize cntF (ledL n 0 (-1) 1 0 (ln n)) N = s at *
  generalize cntF (ledL n 1 (-1) 1 0 (ln n)) N = t at *
  clear hn hn' hN
  go_enter Tryd.func13, Tryd.ntmps13
  go_wp2_with fail
  refine (l01In_is true _ _ _ HN.out _).mono ?_
  rintro e w2 ⟨rfl, rfl⟩
  go_wp2_with fail
  refine (HL.out _).mono ?_
  rintro e w3 ⟨v, rfl, hG3, hb3⟩
  go_wp2_with fail
  refine (HK.out _ _ _ hG3).mono ?_
  rintro e w4 ⟨rfl, hb4⟩
  go_wp2
  go_ret3
  exact ⟨rfl, by repeat (first | with_reducible exact own_refl _ | with_reducible assumption | with_reducible apply own_alloc | with_reducible apply own_drewN | with_reducible apply own_drew | ((with_reducible refine own_setCell ?_ ?_ _); rotate_left; focus (first | (simp; done) | (simp; omega))) | (with_reducible (refine own_trans ?_ (by assumption))))⟩
set_option maxRecDepth 100000 in
set_option maxHeartbeats 4000000 in
theorem implKp_yes (n : Int) (hn : inR n 1 60 = true) (N : Nat) (hN : (ln n).length = N) (w : World) (hid : Idn w) (hmx : MxS w) : Calls Tryd.prog 14 #[(.int .i64 n)] w fun e w' => e = .returned (.tuple #[(.int .i64 ((cntF (ledL n 0 (-1) 1 0 (ln n)) N : Int))), (.int .i64 ((cntF (ledL n 1 (-1) 1 0 (ln n)) N : Int))), (.int .i64 0)]) ∧ Below w.heap.size w w' := by
  have HN := Lib.hid hn
  have hn' : 1 ≤ n ∧ n ≤ 60 := of_decide_eq_true hn
  have HL := Lib.hid (fun w => levelOf_own n hn'.1 hn'.2 w)
  have hp : ∀ p ∈ ln n, isP n p.1 p.2 = true := fun p hp => by
    have := (lnL_mem hp).2.2.2.2
    unfold okP at this
    simp at this
    exact this.1
  have hlen : N ≤ 3600 := by rw [← hN]; exact ln_len hn'.2
  have HS := Lib.hid (fun gu ou cu w hC => led_any n 0 (-1) 1 0 hn'.1 hn'.2 (by omega) (by omega) (by omega) (by omega) (fun p h => by rw [show p.1 * 0 + p.2 * 1 = p.2 by omega, show p.1 * (-1) + p.2 * 0 = -p.1 by omega]; exact isP_S (hp p h)) gu ou cu w hC)
  have HU := Lib.hid (fun gu ou cu w hC => led_any n 1 (-1) 1 0 hn'.1 hn'.2 (by omega) (by omega) (by omega) (by omega) (fun p h => by rw [show p.1 * 1 + p.2 * 1 = p.1 + p.2 by omega, show p.1 * (-1) + p.2 * 0 = -p.1 by omega]; exact isP_U (hp p h)) gu ou cu w hC)
  have e1 : (ledL n 0 (-1) 1 0 (ln n)).length = N := by simp [ledL, hN]
  have e2 : (ledL n 1 (-1) 1 0 (ln n)).length = N := by simp [ledL, hN]
  generalize ledL n 0 (-1) 1 0 (ln n) = l1 at *
  generalize ledL n 1 (-1) 1 0 (ln n) = l2 at *
  have F1 := Lib.hid (fun v L w hG => countFixed_any l1 N e1 hlen v L w hG)
  have F2 := Lib.hid (fun v L w hG => countFixed_any l2 N e2 hlen v L w hG)
  generalize cntF l1 N = s at *
  generalize cntF l2 N = t at *
  have HM := Lib.hid (And.intro hid hmx)
  clear hn hn' hN hp e1 e2 hlen hid hmx
  go_enter Tryd.func14, Tryd.ntmps14
  go_wp2_with fail
  refine (isLevel_is true _ HN.out _).mono ?_
  rintro e w2 ⟨rfl, rfl⟩
  go_wp2_with fail
  refine (HL.out _).mono ?_
  rintro e w3 ⟨gu, ou, cu, rfl, _, hC3, hb3⟩
  go_wp2_with fail
  refine (named_any _ (Rd.below HM.out.1 hb3) (Rd.below HM.out.2 hb3)).mono ?_
  rintro e w4 ⟨rfl, l4, hb4⟩
  go_wp2_with fail
  have T5 : Below w3.heap.size w3 (w4.alloc (.cells #[(.int .i64 n), .slice (some ⟨gu, ou, none⟩) (cop n n.toNat).length cu] 50)) := own_alloc hb4 _
  have B5 : Box (w4.alloc (.cells #[(.int .i64 n), .slice (some ⟨gu, ou, none⟩) (cop n n.toNat).length cu] 50)) w4.heap.size [(.int .i64 n), .slice (some ⟨gu, ou, none⟩) (cop n n.toNat).length cu] := Box.new _ _ _
  have l5 := l4.below (own_alloc (own_refl w4) (.cells #[(.int .i64 n), .slice (some ⟨gu, ou, none⟩) (cop n n.toNat).length cu] 50))
  generalize w4.alloc (.cells #[(.int .i64 n), .slice (some ⟨gu, ou, none⟩) (cop n n.toNat).length cu] 50) = w5 at *
  have T5 := own_drew T5
  have B5 := B5.drew
  have l5 := l5.drew
  have kS := nm_S l5
  have kU := nm_U l5
  obtain ⟨_, _, _, _, _⟩ := B5.two
  clear l4 hb4
  go_region_held3 (fun w' => w'.cell? ⟨w4.heap.size, 0, none⟩ = some (.int .i64 n) ∧ w'.cell? ⟨w4.heap.size, 1, none⟩ = some (.slice (some ⟨gu, ou, none⟩) (cop n n.toNat).length cu) ∧ (Instr.lookup 67 (.map (some w3.heap.size)) (.string ⟨#[83]⟩) false).run Tryd.prog w' = .ok (.agg #[.int .i64 0, .int .i64 (-1), .int .i64 1, .int .i64 0]) w' ∧ (Instr.lookup 67 (.map (some w3.heap.size)) (.string ⟨#[85]⟩) false).run Tryd.prog w' = .ok (.agg #[.int .i64 1, .int .i64 (-1), .int .i64 1, .int .i64 0]) w') (go_keep)
    (first
      | (go_at_call 39; refine (HU.out _ _ _ _ (hC3.low T6 hC3.1)).mono ?_; rintro e w8 ⟨v8, rfl, G8, hb8⟩; have T8 := own_trans T6 hb8; have B8 := B6.below hb8; have l8 := l6.below hb8; have kS8 := nm_S l8; have kU8 := nm_U l8; obtain ⟨_, _, _, _, _⟩ := B8.two; clear hb8)
      | (go_at_call 38; refine (F2.out _ _ _ G8).mono ?_; rintro e w9 ⟨rfl, rfl⟩)
      | (go_at_call 39; refine (HS.out _ _ _ _ (hC3.low T5 hC3.1)).mono ?_; rintro e w6 ⟨v6, rfl, G6, hb6⟩; have T6 := own_trans T5 hb6; have B6 := B5.below hb6; have l6 := l5.below hb6; have kS6 := nm_S l6; have kU6 := nm_U l6; obtain ⟨_, _, _, _, _⟩ := B6.two; clear hb6)
      | (go_at_call 38; refine (F1.out _ _ _ G6).mono ?_; rintro e w7 ⟨rfl, rfl⟩))
  all_goals
    go_wp2
    go_ret3
    exact ⟨rfl, own_trans hb3 T8⟩
end Go.Proofs.YtmijmlngbahaaaaDoor
