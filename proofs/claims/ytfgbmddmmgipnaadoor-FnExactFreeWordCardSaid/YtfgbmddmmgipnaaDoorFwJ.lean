/- Free words: the first of the four candidates; the parts. -/
import Derived.Test.YtfgbmddmmgipnaaDoorFwI
namespace Go.Proofs.YtfgbmddmmgipnaaDoor
open Go.ChangeShapes Go.WideShapes Go.ChangeAt Go.RowKit

theorem retIK {k K : Nat} (h : k = K) : Ending.returned (.int .i64 ((k : Int))) = Ending.returned (.int .i64 ((K : Int))) := by rw [h]
set_option maxHeartbeats 2000000 in
theorem idxF_is (m : Nat → M4) (K : Nat) (hK : K < 4) (he : ∀ j, EntM (m j)) (hp : posS (m K) = true) (hn : ∀ j, j < K → posS (m j) = false) (g : Nat) (w : World) (hg : g < w.heap.size)
    (h0 : At4 w g 0 (m 0)) (h1 : At4 w g 4 (m 1)) (h2 : At4 w g 8 (m 2)) (h3 : At4 w g 12 (m 3)) :
    Calls Tryd.prog 36 #[.slice (some ⟨g, 0, none⟩) 4 4, .func (.func 37) #[] #[]] w fun e w' => e = .returned (.int .i64 ((K : Int))) ∧ Below w.heap.size w w' := by
  have HP := Lib.hid hp
  have HN := Lib.hid hn
  have HC := Lib.hid (fun k w => posSign_is (m k).a (m k).b (m k).c (m k).d (posS (m k)) rfl (he k) w)
  have H0 := Lib.hid h0
  have H1 := Lib.hid h1
  have H2 := Lib.hid h2
  have H3 := Lib.hid h3
  clear hp hn he h0 h1 h2 h3
  go_enter Tryd.func36, Tryd.ntmps36
  go_wp2
  go_loopw [8] (fun i wr => ∃ k : Nat, k ≤ K ∧ i = (.int .i64 ((k : Int))) ∧ Below w.heap.size w wr) (fun i _ => 4 - (intOf i).toNat)
  case atStart => exact ⟨0, Nat.zero_le _, rfl, own_refl _⟩
  case round =>
    obtain ⟨k, hk, rfl, T⟩ := hrel
    have HCK := Lib.hid (HC.out k)
    have HKK : Hid (posS (m k) = true → k = K) := Lib.hid (fun h => (Nat.lt_or_eq_of_le hk).elim (fun h' => absurd h (by rw [HN.out k h']; decide)) id)
    have HKN : Hid (posS (m k) = false → k < K) := Lib.hid (fun h => (Nat.lt_or_eq_of_le hk).elim id (fun h' => absurd h (by rw [h', HP.out]; decide)))
    have hk4 : k = 0 ∨ k = 1 ∨ k = 2 ∨ k = 3 := by omega
    rcases hk4 with rfl | rfl | rfl | rfl
    · obtain ⟨a0, a1, a2, a3⟩ := H0.out.below hg T
      obtain ⟨r, hr⟩ : ∃ r, posS (m 0) = r := ⟨_, rfl⟩
      rw [hr] at HCK HKK HKN
      clear hr
      generalize m 0 = mk at *
      obtain ⟨a, b, c, d⟩ := mk
      have a0 : wr.cell? ⟨g, 0, none⟩ = some (.int .i64 a) := a0
      have a1 : wr.cell? ⟨g, 1, none⟩ = some (.int .i64 b) := a1
      have a2 : wr.cell? ⟨g, 2, none⟩ = some (.int .i64 c) := a2
      have a3 : wr.cell? ⟨g, 3, none⟩ = some (.int .i64 d) := a3
      go_wp2_with fail
      refine (HCK.out _).mono ?_
      rintro e w2 ⟨rfl, hb2⟩
      rcases r with _ | _
      · have hkK := HKN.out rfl
        go_wp2
        go_roundw
        case rel => exact ⟨0 + 1, by omega, by first | rfl | go_num, own_trans T hb2⟩
        case measure => simp [intOf]
      · have HE := Lib.hid (HKK.out rfl)
        go_wp2
        go_ret
        exact ⟨retIK HE.out, own_trans T hb2⟩
    · obtain ⟨a0, a1, a2, a3⟩ := H1.out.below hg T
      obtain ⟨r, hr⟩ : ∃ r, posS (m 1) = r := ⟨_, rfl⟩
      rw [hr] at HCK HKK HKN
      clear hr
      generalize m 1 = mk at *
      obtain ⟨a, b, c, d⟩ := mk
      have a0 : wr.cell? ⟨g, 4, none⟩ = some (.int .i64 a) := a0
      have a1 : wr.cell? ⟨g, 5, none⟩ = some (.int .i64 b) := a1
      have a2 : wr.cell? ⟨g, 6, none⟩ = some (.int .i64 c) := a2
      have a3 : wr.cell? ⟨g, 7, none⟩ = some (.int .i64 d) := a3
      go_wp2_with fail
      refine (HCK.out _).mono ?_
      rintro e w2 ⟨rfl, hb2⟩
      rcases r with _ | _
      · have hkK := HKN.out rfl
        go_wp2
        go_roundw
        case rel => exact ⟨1 + 1, by omega, by first | rfl | go_num, own_trans T hb2⟩
        case measure => simp [intOf]
      · have HE := Lib.hid (HKK.out rfl)
        go_wp2
        go_ret
        exact ⟨retIK HE.out, own_trans T hb2⟩
    · obtain ⟨a0, a1, a2, a3⟩ := H2.out.below hg T
      obtain ⟨r, hr⟩ : ∃ r, posS (m 2) = r := ⟨_, rfl⟩
      rw [hr] at HCK HKK HKN
      clear hr
      generalize m 2 = mk at *
      obtain ⟨a, b, c, d⟩ := mk
      have a0 : wr.cell? ⟨g, 8, none⟩ = some (.int .i64 a) := a0
      have a1 : wr.cell? ⟨g, 9, none⟩ = some (.int .i64 b) := a1
      have a2 : wr.cell? ⟨g, 10, none⟩ = some (.int .i64 c) := a2
      have a3 : wr.cell? ⟨g, 11, none⟩ = some (.int .i64 d) := a3
      go_wp2_with fail
      refine (HCK.out _).mono ?_
      rintro e w2 ⟨rfl, hb2⟩
      rcases r with _ | _
      · have hkK := HKN.out rfl
        go_wp2
        go_roundw
        case rel => exact ⟨2 + 1, by omega, by first | rfl | go_num, own_trans T hb2⟩
        case measure => simp [intOf]
      · have HE := Lib.hid (HKK.out rfl)
        go_wp2
        go_ret
        exact ⟨retIK HE.out, own_trans T hb2⟩
    · obtain ⟨a0, a1, a2, a3⟩ := H3.out.below hg T
      obtain ⟨r, hr⟩ : ∃ r, posS (m 3) = r := ⟨_, rfl⟩
      rw [hr] at HCK HKK HKN
      clear hr
      generalize m 3 = mk at *
      obtain ⟨a, b, c, d⟩ := mk
      have a0 : wr.cell? ⟨g, 12, none⟩ = some (.int .i64 a) := a0
      have a1 : wr.cell? ⟨g, 13, none⟩ = some (.int .i64 b) := a1
      have a2 : wr.cell? ⟨g, 14, none⟩ = some (.int .i64 c) := a2
      have a3 : wr.cell? ⟨g, 15, none⟩ = some (.int .i64 d) := a3
      go_wp2_with fail
      refine (HCK.out _).mono ?_
      rintro e w2 ⟨rfl, hb2⟩
      rcases r with _ | _
      · have hkK := HKN.out rfl
        go_wp2
        go_roundw
        case rel => exact ⟨3 + 1, by omega, by first | rfl | go_num, own_trans T hb2⟩
        case measure => simp [intOf]
      · have HE := Lib.hid (HKK.out rfl)
        go_wp2
        go_ret
        exact ⟨retIK HE.out, own_trans T hb2⟩
end Go.Proofs.YtfgbmddmmgipnaaDoor
