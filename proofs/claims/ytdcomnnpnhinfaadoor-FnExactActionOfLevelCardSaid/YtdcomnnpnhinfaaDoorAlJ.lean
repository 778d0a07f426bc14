/- ActionOfLevel: the program's third way. -/
import Derived.Test.YtdcomnnpnhinfaaDoorKep
import Derived.Test.YtdcomnnpnhinfaaDoorMxS
import Derived.Test.YtdcomnnpnhinfaaDoorIdx
import Derived.Test.YtdcomnnpnhinfaaDoorRunI
import Derived.Test.YtdcomnnpnhinfaaDoorAcA
import Derived.Test.YtdcomnnpnhinfaaDoorAlI
namespace Go.Proofs.YtdcomnnpnhinfaaDoor
open Go.ChangeShapes Go.WideShapes Go.ChangeAt Go.RowKit

set_option maxRecDepth 100000 in
set_option maxHeartbeats 4000000 in
theorem implAl_yes (n : Int) (hn : inR n 1 60 = true) (hx : ixL n ≤ 72) (w : World) (hid : MxS w) : Calls Tryd.prog 9 #[(.int .i64 n)] w (RetAl (ledL n 0 (-1) 1 0 (ln n)) (ledL n 1 1 0 1 (ln n)) 0 w) := by
  have hn' : 1 ≤ n ∧ n ≤ 60 := of_decide_eq_true hn
  have HN := Lib.hid hn
  have HI := Lib.hid (fun w => implIdx_0 n hn'.1 (by omega) w)
  change Hid (∀ w, Calls Tryd.prog 33 #[(.int .i64 0), (.int .i64 n)] w fun e w' => e = .returned (.tuple #[(.int .i64 (ixL n)), (.int .i64 0)]) ∧ Below w.heap.size w w') at HI
  generalize ixL n = x at *
  have HL := Lib.hid (fun w => levelOf_own n hn'.1 hn'.2 w)
  have hp : ∀ p ∈ ln n, isP n p.1 p.2 = true := fun p hp => by
    have := (lnL_mem hp).2.2.2.2
    unfold okP at this
    simp at this
    exact this.1
  have HS := Lib.hid (fun gu ou cu w hC => led_any n 0 (-1) 1 0 hn'.1 hn'.2 (by omega) (by omega) (by omega) (by omega) (fun p h => by rw [show p.1 * 0 + p.2 * 1 = p.2 by omega, show p.1 * (-1) + p.2 * 0 = -p.1 by omega]; exact isP_S (hp p h)) gu ou cu w hC)
  have HT := Lib.hid (fun gu ou cu w hC => led_any n 1 1 0 1 hn'.1 hn'.2 (by omega) (by omega) (by omega) (by omega) (fun p h => by rw [show p.1 * 1 + p.2 * 0 = p.1 by omega, show p.1 * 1 + p.2 * 1 = p.1 + p.2 by omega]; exact isP_T (hp p h)) gu ou cu w hC)
  generalize ledL n 0 (-1) 1 0 (ln n) = l1 at *
  generalize ledL n 1 1 0 1 (ln n) = l2 at *
  have HM := Lib.hid hid
  clear hn hn' hp hid
  go_enter Tryd.func9, Tryd.ntmps9
  go_wp2_with fail
  refine (isLevel_is true _ HN.out _).mono ?_
  rintro e w2 ⟨rfl, rfl⟩
  have B : Box (w.alloc (.cells #[.slice none 0 0, .slice none 0 0] 24)) w.heap.size [.slice none 0 0, .slice none 0 0] := Box.new _ _ _
  have T := own_alloc (own_refl w) (.cells #[.slice none 0 0, .slice none 0 0] 24)
  have hz : (w.alloc (.cells #[.slice none 0 0, .slice none 0 0] 24)).heap.size = w.heap.size + 1 := by simp
  generalize w.alloc (.cells #[.slice none 0 0, .slice none 0 0] 24) = w1 at *
  go_wp2_with fail
  refine (HI.out _).mono ?_
  rintro e w3 ⟨rfl, hb3⟩
  have B := B.below hb3
  have T := own_trans T hb3
  have hz3 : w.heap.size + 1 ≤ w3.heap.size := by have := hb3.size; omega
  clear hb3 hz
  go_wp2_with fail
  refine (HL.out _).mono ?_
  rintro e w4 ⟨gu, ou, cu, rfl, hgu, hC4, hb4⟩
  have B := B.below hb4
  have T := own_trans T hb4
  have hz4 : w.heap.size + 1 ≤ w4.heap.size := by have := hb4.size; omega
  clear hb4 hz3
  have L : Box (w4.alloc (.cells #[(.int .i64 n), .slice (some ⟨gu, ou, none⟩) (cop n n.toNat).length cu] 54)) w4.heap.size [(.int .i64 n), .slice (some ⟨gu, ou, none⟩) (cop n n.toNat).length cu] := Box.new _ _ _
  have B5 := B.alloc (.cells #[(.int .i64 n), .slice (some ⟨gu, ou, none⟩) (cop n n.toNat).length cu] 54)
  have T5 := own_alloc T (.cells #[(.int .i64 n), .slice (some ⟨gu, ou, none⟩) (cop n n.toNat).length cu] 54)
  have C5 := hC4.low (own_drew (own_alloc (own_refl w4) (.cells #[(.int .i64 n), .slice (some ⟨gu, ou, none⟩) (cop n n.toNat).length cu] 54))) hC4.1
  clear hC4 T B
  go_upto_region 7 with fail
  generalize w4.alloc (.cells #[(.int .i64 n), .slice (some ⟨gu, ou, none⟩) (cop n n.toNat).length cu] 54) = w5 at *
  have hM := Rd.below HM.out T5
  obtain ⟨-, b0, b1, -, -⟩ := B5.two
  obtain ⟨-, c0, c1, -, -⟩ := L.two
  obtain ⟨m0, m1, m2, m3⟩ := hM.four
  have hgm : 0 < w.heap.size := HM.out.1
  have nq1 : ¬ (w.heap.size = w4.heap.size) := by omega
  have nq2 : ¬ (w4.heap.size = w.heap.size) := by omega
  have nq3 : ¬ (w.heap.size = 0) := by omega
  have nq4 : ¬ (0 = w.heap.size) := by omega
  generalize w4.heap.size = gl at *
  go_region_held3 (fun w' => w'.cell? ⟨gl, 0, none⟩ = some (.int .i64 n) ∧ w'.cell? ⟨gl, 1, none⟩ = some (.slice (some ⟨gu, ou, none⟩) (cop n n.toNat).length cu) ∧ w'.cell? ⟨0, 0, none⟩ = some (.int .i64 0) ∧ w'.cell? ⟨0, 1, none⟩ = some (.int .i64 (-1)) ∧ w'.cell? ⟨0, 2, none⟩ = some (.int .i64 1) ∧ w'.cell? ⟨0, 3, none⟩ = some (.int .i64 0)) (go_keep)
    (first
      | (go_at_call 35; refine (HT.out _ _ _ _ (C7)).mono ?_; rintro e w8 ⟨v8, rfl, G8, hb8⟩; obtain ⟨a8, c8, e8⟩ := G8.shape; subst e8; have T8 := own_trans T7 hb8; have B8 := B7.below hb8; have G68 := G67.own hb8; have z8 := hb8.size; have L8 := L7.below hb8; obtain ⟨-, f0, f1, -, -⟩ := L8.two; obtain ⟨-, s0, s1, r0, r1⟩ := B8.two; obtain ⟨m80, m81, m82, m83⟩ := (Rd.below HM.out T8).four; have C9 := B8.put2 (.slice a6 l1.length c6) (.slice a8 l2.length c8); obtain ⟨-, x0, x1, -, -⟩ := C9.two; have T9 := own_setCell (own_setCell T8 (p := ⟨w.heap.size, 0, none⟩) (by simp) (.slice a6 l1.length c6)) (p := ⟨w.heap.size, 1, none⟩) (by simp) (.slice a8 l2.length c8); clear hb8)
      | (go_at_call 36; refine (powerOfT_any _ _).mono ?_; rintro e w7 ⟨rfl, hb7⟩; have T7 := own_trans T6 hb7; have B7 := B6.below hb7; have L7 := L6.below hb7; have C7 := C6.low hb7 C6.1; have G67 := G6.own hb7; have z7 := hb7.size; obtain ⟨-, e0, e1, -, -⟩ := L7.two; obtain ⟨m70, m71, m72, m73⟩ := (Rd.below HM.out T7).four; clear hb7)
      | (go_at_call 35; refine (HS.out _ _ _ _ (C5)).mono ?_; rintro e w6 ⟨v6, rfl, G6, hb6⟩; obtain ⟨a6, c6, e6⟩ := G6.shape; subst e6; have T6 := own_trans (own_drew T5) hb6; have B6 := (B5.drew).below hb6; have L6 := (L.drew).below hb6; have C6 := C5.low hb6 C5.1; have z6 := hb6.size; obtain ⟨-, d0, d1, -, -⟩ := L6.two; obtain ⟨m60, m61, m62, m63⟩ := (Rd.below HM.out T6).four; clear hb6))
  have k1 : w.heap.size < w5.drew.heap.size := by
    have := L.1
    show w.heap.size < w5.heap.size
    omega
  have k2 : w.heap.size < w7.heap.size := by
    have := L7.1
    omega
  have GS3 := (G68.set (p := ⟨w.heap.size, 0, none⟩) k1 (.slice a6 l1.length c6)).set (p := ⟨w.heap.size, 1, none⟩) k1 (.slice a8 l2.length c8)
  have GT3 := (G8.set (p := ⟨w.heap.size, 0, none⟩) k2 (.slice a6 l1.length c6)).set (p := ⟨w.heap.size, 1, none⟩) k2 (.slice a8 l2.length c8)
  have hap : ∀ b, (Value.slice a6 l1.length c6).ownBlock = some b → (Value.slice a8 l2.length c8).ownBlock ≠ some b := fun b h1 h2 => by
    have q1 := (G67.lt b h1).2
    have q2 := (G8.lt b h2).1
    omega
  go_wp2_with fail
  exact bodyPost_ret (v := .tuple #[.agg #[.slice a6 l1.length c6, .slice a8 l2.length c8], (.int .i64 0)]) (by simp [results, Tryd.results9, go_sem, x0, x1]) rfl ⟨_, rfl, ⟨_, _, rfl, GS3.weakL (Nat.le_of_lt k1), GT3.weakL (Nat.le_of_lt k2), hap⟩, T9⟩
end Go.Proofs.YtdcomnnpnhinfaaDoor
