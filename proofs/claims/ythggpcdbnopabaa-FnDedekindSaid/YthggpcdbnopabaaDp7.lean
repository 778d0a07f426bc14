/- Draws of two numbers: l07Pair; numbers near a range: l01Near. -/
import Derived.Test.YthggpcdbnopabaaDrp
import Derived.Test.YthggpcdbnopabaaLow
namespace Go.Proofs.Ythggpcdbnopabaa
open Go.ChangeShapes Go.WideShapes Go.ChangeAt Go.RowKit

/-- What a draw of a number leaves, of which only bounds are known. -/
def Bnd (lo hi : Int) (g : Nat) (w : World) (e : Ending) (w' : World) : Prop := ∃ x : Int, e = .returned (.int .i64 x) ∧ lo ≤ x ∧ x ≤ hi ∧ DR g w w' ∧ Src w' g
theorem gcd_mid {h k : Int} (h0 : Mid h) (h1 : Mid k) (w : World) : ∃ c : Int, Calls Try.prog 37 #[(.int .i64 h), (.int .i64 k)] w fun e w' => e = .returned (.int .i64 c) ∧ w = w' := ⟨_, l01Gcd_any h k h0 h1 w⟩
set_option maxHeartbeats 4000000 in
theorem l01Near_any (m : Int) (hm : 0 ≤ m) (hm' : m ≤ 1000000) (g : Nat) (w : World) (h : Src w g) : Calls Try.prog 38 #[.pointer (some ⟨g, 0, none⟩), (.int .i64 m)] w (Bnd (-4611686018427387904) 1099511627776 g w) := by
  have HS := Lib.hid h
  have hg : g < w.heap.size := by obtain ⟨_, _, _, _, _, _, hB, _⟩ := h; exact hB.1
  clear h
  go_enter Try.func38, Try.ntmps38
  go_wp2_with fail
  refine (l01Next_any 14 g _ HS.out).mono ?_
  rintro e w1 ⟨x, rfl, x1, x2, D1, S1⟩
  by_cases hx0 : x = 0
  · subst hx0
    have BL := Box.new w1 [.int .i64 (-1), .int .i64 (m + 1), .int .i64 1099511627776, .int .i64 (-4611686018427387904)] 2
    have S1a := S1.alloc (.cells #[.int .i64 (-1), .int .i64 (m + 1), .int .i64 1099511627776, .int .i64 (-4611686018427387904)] 2)
    have D1a := D1.trans (DR.below (own_alloc (own_refl w1) (.cells #[.int .i64 (-1), .int .i64 (m + 1), .int .i64 1099511627776, .int .i64 (-4611686018427387904)] 2)))
    have hz := D1.size
    go_wp2_with fail
    refine (l01Pick_any [-1, m + 1, 1099511627776, -4611686018427387904] _ g _ S1a (by simp) (by simp) BL (by omega)).mono ?_
    rintro e w3 ⟨v, rfl, hv, D3, S3⟩
    have hvb : -4611686018427387904 ≤ v ∧ v ≤ 1099511627776 := by simp at hv; omega
    go_wp2
    go_ret
    exact ⟨v, rfl, hvb.1, hvb.2, D1a.trans D3, S3⟩
  · have hb : (x == 0) = false := by simp [hx0]
    go_wp2_with fail
    refine (l01Next_any (m + 1) g _ S1).mono ?_
    rintro e w3 ⟨v, rfl, v1, v2, D3, S3⟩
    go_wp2
    go_ret
    exact ⟨v, rfl, by omega, by omega, D1.trans D3, S3⟩
/-- What a draw of two numbers leaves. -/
def Two (w : World) (e : Ending) (w' : World) : Prop := ∃ h k : Int, e = .returned (.tuple #[(.int .i64 h), (.int .i64 k)]) ∧ -1099511627776 ≤ h ∧ h ≤ 1099511627776 ∧ -1099511627776 ≤ k ∧ k ≤ 1099511627776 ∧ Below w.heap.size w w'
set_option maxHeartbeats 4000000 in
theorem l07Pair_any (cd : Value) (m : Int) (hm : 1 ≤ m) (hm' : m ≤ 20000) (w : World) (h : CodeA w cd) : Calls Try.prog 27 #[cd, (.int .i64 m)] w (Two w) := by
  have HC := Lib.hid h
  obtain ⟨ad, n, cap, rfl, _, _⟩ := id h
  clear h
  go_enter Try.func27, Try.ntmps27
  go_wp2_with fail
  refine (l01From_any _ _ HC.out).mono ?_
  rintro e w1 ⟨rfl, S1, hb1⟩
  have hz1 := hb1.size
  have hg1 : w.heap.size < w1.heap.size := by obtain ⟨_, _, _, _, _, _, hB, _⟩ := S1; exact hB.1
  have D1 : DR w.heap.size w1 w1 := DR.refl _ _
  have BL := Box.new w1 [.int .i64 10, .int .i64 40, .int .i64 m] 2
  have S1a := S1.alloc (.cells #[.int .i64 10, .int .i64 40, .int .i64 m] 2)
  have D1a := D1.trans (DR.below (own_alloc (own_refl w1) (.cells #[.int .i64 10, .int .i64 40, .int .i64 m] 2)))
  go_wp2_with fail
  refine (l01Pick_any [10, 40, m] _ w.heap.size _ S1a (by simp) (by simp) BL (by omega)).mono ?_
  rintro e w2 ⟨v, rfl, hv, D2, S2⟩
  have hvb : 1 ≤ v ∧ v ≤ 20000 := by simp at hv; omega
  have D2 := D1a.trans D2
  clear BL S1a D1a hv S1 D1
  obtain ⟨_, _⟩ := hvb
  go_wp2_with fail
  refine (l01Next_any v w.heap.size _ S2).mono ?_
  rintro e w3 ⟨x, rfl, x1, x2, D3, S3⟩
  have D3 := D2.trans D3
  clear S2 D2
  have hx : x ≤ 20000 := by omega
  obtain ⟨k, hk⟩ : ∃ k : Int, 1 + x = k := ⟨_, rfl⟩
  have hk1 : 1 ≤ k ∧ k ≤ 20001 := by omega
  obtain ⟨_, _⟩ := hk1
  go_wp2_with fail
  refine (l01Next_any (3 * k) w.heap.size _ S3).mono ?_
  rintro e w4 ⟨y, rfl, y1, y2, D4, S4⟩
  have D4 := D3.trans D4
  clear S3 D3 hk x1 x2 hx
  have hy : y ≤ 60003 := by omega
  go_wp2
  go_loop [8, 9] (fun a b => ∃ h j : Int, a = (.int .i64 h) ∧ b = (.int .i64 j) ∧ 0 ≤ j ∧ j ≤ 3 ∧ -30000 ≤ h ∧ h ≤ 61000 + j) (fun _ b => (3 - intOf b).toNat)
  case atStart => exact ⟨_, 0, rfl, rfl, by omega, by omega, by omega, by omega⟩
  case round =>
    obtain ⟨h, j, rfl, rfl, j0, j3, h0, h1⟩ := hrel
    have fin : ∀ (h k : Int) (wf : World), -1099511627776 ≤ h → h ≤ 1099511627776 → -1099511627776 ≤ k → k ≤ 1099511627776 → DR w.heap.size w1 wf → Two w (.returned (.tuple #[(.int .i64 h), (.int .i64 k)])) wf := fun h k wf a b c d D => ⟨h, k, rfl, a, b, c, d, D.belowL hb1 hz1 (Nat.le_refl _)⟩
    have FIN := Lib.hid fin
    clear fin
    by_cases hlast : j < 3
    · obtain ⟨c, hc⟩ : ∃ c : Int, ((Int.gcd h k : Nat) : Int) = c := ⟨_, rfl⟩
      have HG := Lib.hid (fun w => l01Gcd_is c h k hc (by unfold Mid; omega) (by unfold Mid; omega) w)
      clear hc
      by_cases hc1 : c = 1
      · subst hc1
        go_wp2_with fail
        refine (HG.out _).mono ?_
        rintro e w5 ⟨rfl, rfl⟩
        go_wp2_with fail
        refine (l01Next_any 16 w.heap.size _ S4).mono ?_
        rintro e w6 ⟨z, rfl, z1, z2, D6, S6⟩
        have D6 := D4.trans D6
        have hz6 := D6.size
        rcases (show z = 0 ∨ z = 1 ∨ (¬ z = 0 ∧ ¬ z = 1) by omega) with rfl | rfl | ⟨n0, n1⟩
        · have BL := Box.new w6 [.int .i64 0, .int .i64 1000000000, .int .i64 (-1000000001), .int .i64 1099511627776] 2
          have Sa := S6.alloc (.cells #[.int .i64 0, .int .i64 1000000000, .int .i64 (-1000000001), .int .i64 1099511627776] 2)
          have Da := D6.trans (DR.below (own_alloc (own_refl w6) (.cells #[.int .i64 0, .int .i64 1000000000, .int .i64 (-1000000001), .int .i64 1099511627776] 2)))
          go_wp2_with fail
          refine (l01Pick_any [0, 1000000000, -1000000001, 1099511627776] _ w.heap.size _ Sa (by simp) (by simp) BL (by omega)).mono ?_
          rintro e w7 ⟨v7, rfl, hv, D7, S7⟩
          have hvb : -1000000001 ≤ v7 ∧ v7 ≤ 1099511627776 := by simp at hv; omega
          go_wp2
          go_ret2
          exact FIN.out _ _ _ (by omega) (by omega) (by omega) (by omega) (Da.trans D7)
        · have BL := Box.new w6 [.int .i64 0, .int .i64 (-1), .int .i64 (m + 1)] 2
          have Sa := S6.alloc (.cells #[.int .i64 0, .int .i64 (-1), .int .i64 (m + 1)] 2)
          have Da := D6.trans (DR.below (own_alloc (own_refl w6) (.cells #[.int .i64 0, .int .i64 (-1), .int .i64 (m + 1)] 2)))
          go_wp2_with fail
          refine (l01Pick_any [0, -1, m + 1] _ w.heap.size _ Sa (by simp) (by simp) BL (by omega)).mono ?_
          rintro e w7 ⟨v7, rfl, hv, D7, S7⟩
          have hvb : -1 ≤ v7 ∧ v7 ≤ 20001 := by simp at hv; omega
          go_wp2
          go_ret2
          exact FIN.out _ _ _ (by omega) (by omega) (by omega) (by omega) (Da.trans D7)
        · have b0 : (z == 0) = false := by simp [n0]
          have b1 : (z == 1) = false := by simp [n1]
          go_wp2
          go_ret2
          exact FIN.out _ _ _ (by omega) (by omega) (by omega) (by omega) D6
      · have hc2 : (c != 1) = true := by simp [hc1]
        have hc3 : (c == 1) = false := by simp [hc1]
        clear hc1
        go_wp2_with fail
        refine (HG.out _).mono ?_
        rintro e w5 ⟨rfl, rfl⟩
        go_wp2
        go_round
        case rel => exact ⟨h + 1, j + 1, rfl, rfl, by omega, by omega, by omega, by omega⟩
        case measure => simp [intOf]; omega
    · go_wp2_with fail
      refine (l01Next_any 16 w.heap.size _ S4).mono ?_
      rintro e w6 ⟨z, rfl, z1, z2, D6, S6⟩
      have D6 := D4.trans D6
      have hz6 := D6.size
      rcases (show z = 0 ∨ z = 1 ∨ (¬ z = 0 ∧ ¬ z = 1) by omega) with rfl | rfl | ⟨n0, n1⟩
      · have BL := Box.new w6 [.int .i64 0, .int .i64 1000000000, .int .i64 (-1000000001), .int .i64 1099511627776] 2
        have Sa := S6.alloc (.cells #[.int .i64 0, .int .i64 1000000000, .int .i64 (-1000000001), .int .i64 1099511627776] 2)
        have Da := D6.trans (DR.below (own_alloc (own_refl w6) (.cells #[.int .i64 0, .int .i64 1000000000, .int .i64 (-1000000001), .int .i64 1099511627776] 2)))
        go_wp2_with fail
        refine (l01Pick_any [0, 1000000000, -1000000001, 1099511627776] _ w.heap.size _ Sa (by simp) (by simp) BL (by omega)).mono ?_
        rintro e w7 ⟨v7, rfl, hv, D7, S7⟩
        have hvb : -1000000001 ≤ v7 ∧ v7 ≤ 1099511627776 := by simp at hv; omega
        go_wp2
        go_ret2
        exact FIN.out _ _ _ (by omega) (by omega) (by omega) (by omega) (Da.trans D7)
      · have BL := Box.new w6 [.int .i64 0, .int .i64 (-1), .int .i64 (m + 1)] 2
        have Sa := S6.alloc (.cells #[.int .i64 0, .int .i64 (-1), .int .i64 (m + 1)] 2)
        have Da := D6.trans (DR.below (own_alloc (own_refl w6) (.cells #[.int .i64 0, .int .i64 (-1), .int .i64 (m + 1)] 2)))
        go_wp2_with fail
        refine (l01Pick_any [0, -1, m + 1] _ w.heap.size _ Sa (by simp) (by simp) BL (by omega)).mono ?_
        rintro e w7 ⟨v7, rfl, hv, D7, S7⟩
        have hvb : -1 ≤ v7 ∧ v7 ≤ 20001 := by simp at hv; omega
        go_wp2
        go_ret2
        exact FIN.out _ _ _ (by omega) (by omega) (by omega) (by omega) (Da.trans D7)
      · have b0 : (z == 0) = false := by simp [n0]
        have b1 : (z == 1) = false := by simp [n1]
        go_wp2
        go_ret2
        exact FIN.out _ _ _ (by omega) (by omega) (by omega) (by omega) D6
end Go.Proofs.Ythggpcdbnopabaa
