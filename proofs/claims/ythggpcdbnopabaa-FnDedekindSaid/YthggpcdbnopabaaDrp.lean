/- Picking one of some numbers; the source made of a code. -/
import Derived.Test.YthggpcdbnopabaaDrw
namespace Go.Proofs.Ythggpcdbnopabaa
open Go.ChangeShapes Go.WideShapes Go.ChangeAt Go.RowKit

set_option maxHeartbeats 2000000 in
theorem l01Pick_any (xs : List Int) (lb g : Nat) (w : World) (h : Src w g) (hx : xs ≠ []) (hlen : xs.length ≤ 1000) (hB : Box w lb (xs.map fun x => (.int .i64 x))) (hne : lb ≠ g) :
    Calls Try.prog 50 #[.pointer (some ⟨g, 0, none⟩), .slice (some ⟨lb, 0, none⟩) xs.length xs.length] w fun e w' => ∃ x : Int, e = .returned (.int .i64 x) ∧ x ∈ xs ∧ DR g w w' ∧ Src w' g := by
  have hpos : 0 < xs.length := List.length_pos_iff.2 hx
  obtain ⟨l, hl⟩ : ∃ l, xs.length = l := ⟨_, rfl⟩
  have HL := Lib.hid hl
  have HS := Lib.hid h
  have HB := Lib.hid hB
  rw [hl] at hpos hlen ⊢
  clear hl h hB hx
  go_enter Try.func50, Try.ntmps50
  go_wp2_with fail
  refine (l01Next_any (l : Int) g _ HS.out).mono ?_
  rintro e w1 ⟨x, rfl, h1, h2, D, S⟩
  obtain ⟨k, rfl⟩ : ∃ k : Nat, x = (k : Int) := ⟨x.toNat, by omega⟩
  have hk : k < l := by omega
  have B1 := D.box hne HB.out
  obtain ⟨y, hy⟩ : ∃ y, xs.getD k 0 = y := ⟨_, rfl⟩
  have hkx : k < xs.length := by rw [HL.out]; exact hk
  have hc := (B1.2 k (.int .i64 y) (by rw [List.getElem?_map, List.getElem?_eq_getElem hkx]; simp only [List.getD, List.getElem?_eq_getElem hkx] at hy; simp at hy; simp [hy])).1
  have HM : Hid (y ∈ xs) := Lib.hid (by rw [← hy]; simp [List.getD, List.getElem?_eq_getElem hkx])
  clear hy B1
  go_wp2
  go_ret
  exact ⟨y, rfl, HM.out, D, S⟩
/-- What reads as a code. -/
def CodeA (w : World) (cd : Value) : Prop := ∃ (ad : Option Addr) (n cap : Nat), cd = .slice ad n cap ∧ n ≤ 1048576 ∧
  (0 < n → ∃ b off, ad = some ⟨b, off, none⟩ ∧ b < w.heap.size ∧ ∀ k, k < n → ∃ x : Int, 0 ≤ x ∧ x ≤ 255 ∧ w.cell? ⟨b, off + k, none⟩ = some (.int .u8 x))
theorem CodeA.below {w w' : World} {cd : Value} (h : CodeA w cd) (k : Below w.heap.size w w') : CodeA w' cd := by
  obtain ⟨ad, n, cap, rfl, hn, hc⟩ := h
  refine ⟨ad, n, cap, rfl, hn, fun h0 => ?_⟩
  obtain ⟨b, off, rfl, hb, hx⟩ := hc h0
  refine ⟨b, off, rfl, Nat.lt_of_lt_of_le hb k.size, fun i hi => ?_⟩
  obtain ⟨x, h1, h2, h3⟩ := hx i hi
  exact ⟨x, h1, h2, (k.cell (p := ⟨b, off + i, none⟩) hb).trans h3⟩
set_option maxRecDepth 100000 in
set_option maxHeartbeats 4000000 in
theorem l01From_any (cd : Value) (w : World) (h : CodeA w cd) : Calls Try.prog 39 #[cd] w fun e w' => e = .returned (.pointer (some ⟨w.heap.size, 0, none⟩)) ∧ Src w' w.heap.size ∧ Below w.heap.size w w' := by
  have HA := Lib.hid h
  obtain ⟨ad, n, cap, rfl, hn, hc⟩ := h
  have HC := Lib.hid hc
  clear hc
  go_enter Try.func39, Try.ntmps39
  go_wp2
  go_loopw [4] (fun i wr => ∃ (k : Nat) (h : Int), i = (.int .i64 ((k : Int))) ∧ k ≤ 4096 ∧ k ≤ n ∧ 0 ≤ h ∧ h ≤ 18446744073709551615 ∧ Below w.heap.size w wr ∧ Box wr w.heap.size [.slice ad n cap, (.int .i64 0), .int .u64 h]) (fun i _ => 4097 - (intOf i).toNat)
  case atStart =>
    refine ⟨0, _, rfl, by omega, by omega, ?_, ?_, own_alloc (own_refl _) _, Box.new _ _ _⟩
    · omega
    · omega
  case round =>
    obtain ⟨k, h, rfl, hk, hkn, h0, h1, T, B⟩ := hrel
    obtain ⟨_, _, _, _, _, _, _⟩ := B.three'
    by_cases hlt : k < n ∧ k < 4096
    · obtain ⟨hlt1, hlt2⟩ := hlt
      obtain ⟨b, off, rfl, hb, hx⟩ := HC.out (by omega)
      obtain ⟨x, x1, x2, cx⟩ := hx k hlt1
      have cx : wr.cell? ⟨b, off + k, none⟩ = some (.int .u8 x) := (T.cell (p := ⟨b, off + k, none⟩) hb).trans cx
      have nb : ¬ (b = w.heap.size) := by omega
      clear hx
      go_upto_region 5 with fail
      go_region_with (fail)
      all_goals
        obtain ⟨h2, hh2⟩ : ∃ h2 : Int, IntKind.u64.wrap (IntKind.u64.wrap (IntKind.u64.wrap (h * 1099511628211) + IntKind.u64.wrap x) + 227) = h2 := ⟨_, rfl⟩
        have hb2 : 0 ≤ h2 ∧ h2 ≤ 18446744073709551615 := by
          rw [← hh2]
          have := Go.wrap_within .u64 (IntKind.u64.wrap (IntKind.u64.wrap (h * 1099511628211) + IntKind.u64.wrap x) + 227)
          simpa [IntKind.min, IntKind.max, IntKind.signed, IntKind.bits] using this
        rw [hh2]
        clear hh2
        go_wp2
        go_roundw
        case rel => exact ⟨k + 1, h2, by simp, by omega, by omega, hb2.1, hb2.2, by first | exact own_drew (own_setCell T (Nat.le_refl _) _) | exact own_setCell (own_drew T) (Nat.le_refl _) _, by first | exact Box.drew (by simpa using B.set 2 (by simp) (.int .u64 h2)) | (have := (Box.drew B).set 2 (by simp) (.int .u64 h2); simpa using this)⟩
        case measure => simp [intOf]; omega
    · have HCR : Hid (CodeR wr w.heap.size (.slice ad n cap)) := Lib.hid (by
        refine ⟨ad, n, cap, rfl, by omega, fun hp => ?_⟩
        obtain ⟨b, off, rfl, hb, hx⟩ := HC.out hp
        refine ⟨b, off, rfl, by have := T.size; omega, by omega, fun i hi => ?_⟩
        obtain ⟨x, y1, y2, y3⟩ := hx i hi
        exact ⟨x, y1, y2, (T.cell (p := ⟨b, off + i, none⟩) hb).trans y3⟩)
      rcases (show ¬ k < n ∨ (k < n ∧ ¬ k < 4096) by omega) with hl | ⟨hl, hl2⟩
      all_goals
        clear hlt
        go_wp2
        go_ret
        exact ⟨rfl, ⟨_, 0, h, by omega, h0, h1, B, HCR.out⟩, T⟩
end Go.Proofs.Ythggpcdbnopabaa
