/- The laws' own helpers: lists of integers and of fractions compared, a number looked for. -/
import Derived.Test.YthggpcdbnopabaaSmI
import Derived.Test.YthggpcdbnopabaaIsF
import Derived.Test.YthggpcdbnopabaaGrFM
namespace Go.Proofs.Ythggpcdbnopabaa
open Go.ChangeShapes Go.WideShapes Go.ChangeAt Go.RowKit

theorem big_is (ad : Option Addr) (n cap : Nat) (w : World) : Calls Try.prog 4 #[.slice ad n cap] w fun e w' => e = .returned (.bool (decide ((4096 : Int) < n))) ∧ w = w' := by
  go_enter Try.func4, Try.ntmps4
  go_wp2
  go_ret
  exact ⟨rfl, rfl⟩
set_option maxHeartbeats 1000000 in
theorem likeInts_same (v u : Value) (xs : List Int) (L U L' U' : Nat) (w : World) (hn : xs.length ≤ 4294967296) (hv : Sl w L U v xs) (hu : Sl w L' U' u xs) :
    Calls Try.prog 15 #[v, u] w fun e w' => e = .returned (.bool true) ∧ Below w.heap.size w w' := by
  obtain ⟨z, a, cap, rfl, hc⟩ := hv
  obtain ⟨z', a', cap', rfl, hc'⟩ := hu
  rcases Nat.eq_zero_or_pos xs.length with h0 | h0
  · rw [h0]
    clear hc hc' h0 hn
    go_enter Try.func15, Try.ntmps15
    go_wp2
    go_loop [5] (fun i => i = (.int .i64 0)) (fun _ => 0)
    case atStart => rfl
    case round =>
      subst hrel
      go_wp2
      go_ret
      exact ⟨rfl, own_refl _⟩
  · obtain ⟨g, off, rfl, _, hg, hc⟩ := hc h0
    obtain ⟨g', off', rfl, _, hg', hc'⟩ := hc' h0
    have HC := Lib.hid hc
    have HC' := Lib.hid hc'
    clear hc hc'
    go_enter Try.func15, Try.ntmps15
    go_wp2
    go_loopw [5] (fun i wr => ∃ k : Nat, k ≤ xs.length ∧ i = (.int .i64 k) ∧ Below w.heap.size w wr) (fun i _ => xs.length - (intOf i).toNat)
    case atStart => exact ⟨0, Nat.zero_le _, rfl, own_refl _⟩
    case round =>
      obtain ⟨k, hk, rfl, hb⟩ := hrel
      by_cases hlt : k < xs.length
      · obtain ⟨x, hx⟩ : ∃ x, xs.getD k 0 = x := ⟨_, rfl⟩
        have c1 : wr.cell? ⟨g, off + k, none⟩ = some (.int .i64 x) := by rw [hb.cell (p := ⟨g, off + k, none⟩) (by show g < _; omega), ← hx]; exact (HC.out k hlt).1
        have c2 : wr.cell? ⟨g', off' + k, none⟩ = some (.int .i64 x) := by rw [hb.cell (p := ⟨g', off' + k, none⟩) (by show g' < _; omega), ← hx]; exact (HC'.out k hlt).1
        clear hx
        go_wp2
        go_quiet (fail)
        go_wp2
        go_roundw
        case rel => exact ⟨k + 1, by omega, by go_num, below_drewN' hb _⟩
        case measure => simp [intOf]; omega
      · go_wp2
        go_ret
        exact ⟨rfl, hb⟩

theorem sl_at {w : World} {L U : Nat} {v : Value} {xs : List Int} (h : Sl w L U v xs) : ∃ ad cap, v = .slice ad xs.length cap ∧ ∀ k, k < xs.length → ∃ g off, ad = some ⟨g, off, none⟩ ∧ w.cell? ⟨g, off + k, none⟩ = some (.int .i64 (xs.getD k 0)) := by
  obtain ⟨z, a, cap, rfl, hc⟩ := h
  refine ⟨a, cap, rfl, fun k hk => ?_⟩
  obtain ⟨g, off, rfl, _, _, hcell⟩ := hc (by omega)
  exact ⟨g, off, rfl, (hcell k hk).1⟩
set_option maxHeartbeats 1000000 in
theorem hasInt_yes (v : Value) (xs : List Int) (x : Int) (L U : Nat) (w : World) (hn : xs.length ≤ 4294967296) (hv : Sl w L U v xs) (hx : x ∈ xs) :
    Calls Try.prog 16 #[v, (.int .i64 x)] w fun e w' => e = .returned (.bool true) ∧ w = w' := by
  obtain ⟨ad, cap, rfl, hc⟩ := sl_at hv
  have HC := Lib.hid hc
  have HX := Lib.hid hx
  obtain ⟨m, hm⟩ : ∃ m, xs.length = m := ⟨_, rfl⟩
  have HM := Lib.hid hm
  rw [hm] at hn ⊢
  clear hc hx hv hm
  go_enter Try.func16, Try.ntmps16
  go_wp2
  go_loop [5] (fun i => ∃ k : Nat, k ≤ m ∧ i = (.int .i64 ((k : Int))) ∧ Hid (∀ j, j < k → xs.getD j 0 ≠ x)) (fun i => m - (intOf i).toNat)
  case atStart => exact ⟨0, Nat.zero_le _, rfl, Lib.hid (fun j hj => by omega)⟩
  case round =>
    obtain ⟨k, hk, rfl, HN⟩ := hrel
    by_cases hlt : k < m
    · obtain ⟨g, off, rfl, c0⟩ := HC.out k (by rw [HM.out]; exact hlt)
      obtain ⟨y, hy⟩ : ∃ y, xs.getD k 0 = y := ⟨_, rfl⟩
      rw [hy] at c0
      by_cases he : y = x
      · have e1 : (y == x) = true := by simp [he]
        clear hy
        go_wp2
        go_ret
        exact ⟨rfl, rfl⟩
      · have e1 : (y == x) = false := by simp [he]
        have HN2 : Hid (∀ j, j < k + 1 → xs.getD j 0 ≠ x) := Lib.hid (fun j hj => by
          rcases (show j < k ∨ j = k by omega) with h | rfl
          · exact HN.out j h
          · rw [hy]; exact he)
        clear hy he
        go_wp2
        go_round
        case rel => exact ⟨k + 1, by omega, by go_num, HN2⟩
        case measure => simp [intOf]; omega
    · exfalso
      obtain ⟨j, hj, e⟩ := List.mem_iff_getElem.1 HX.out
      have h1 := HN.out j (by have := HM.out; omega)
      exact h1 (by simp [List.getD, List.getElem?_eq_getElem hj, e])
set_option maxHeartbeats 2000000 in
theorem fractions5_same (v u : Value) (n : Nat) (xs : List Int) (L U L' U' : Nat) (w : World) (hn : n ≤ 1000000000) (hv : SlF w L U v n xs) (hu : SlF w L' U' u n xs) :
    Calls Try.prog 26 #[v, u] w fun e w' => e = .returned (.bool true) ∧ Below w.heap.size w w' := by
  obtain ⟨_, z, a, cap, rfl, hc⟩ := hv
  obtain ⟨_, z', a', cap', rfl, hc'⟩ := hu
  have HC := Lib.hid hc
  have HC' := Lib.hid hc'
  clear hc hc'
  go_enter Try.func26, Try.ntmps26
  go_wp2
  go_loopw [5] (fun i wr => ∃ k : Nat, k ≤ n ∧ i = (.int .i64 k) ∧ Below w.heap.size w wr) (fun i _ => n - (intOf i).toNat)
  case atStart => exact ⟨0, Nat.zero_le _, rfl, own_refl _⟩
  case round =>
    obtain ⟨k, hk, rfl, hb⟩ := hrel
    by_cases hlt : k < n
    · obtain ⟨g, rfl, _, hg, hc⟩ := HC.out (by omega)
      obtain ⟨g', rfl, _, hg', hc'⟩ := HC'.out (by omega)
      have b1 : ∀ j, j < 2 * n → wr.cell? ⟨g, j, none⟩ = some (.int .i64 (xs.getD j 0)) ∧ wr.frozen? ⟨g, j, none⟩ = false := fun j hj => by
        rw [hb.cell (p := ⟨g, j, none⟩) (by show g < _; omega), hb.frozen (p := ⟨g, j, none⟩) (by show g < _; omega)]; exact hc j hj
      have b2 : ∀ j, j < 2 * n → wr.cell? ⟨g', j, none⟩ = some (.int .i64 (xs.getD j 0)) ∧ wr.frozen? ⟨g', j, none⟩ = false := fun j hj => by
        rw [hb.cell (p := ⟨g', j, none⟩) (by show g' < _; omega), hb.frozen (p := ⟨g', j, none⟩) (by show g' < _; omega)]; exact hc' j hj
      obtain ⟨c10, c11⟩ := flat_atF b1 hlt
      obtain ⟨c20, c21⟩ := flat_atF b2 hlt
      clear b1 b2 hc hc'
      generalize xs.getD (2 * k + 0) 0 = x0 at *
      generalize xs.getD (2 * k + 1) 0 = x1 at *
      have q := fun w => eq_fr_is true x0 x1 x0 x1 (by simp) w
      go_wp2
      go_quiet (fail)
      go_wp2
      go_roundw
      case rel => exact ⟨k + 1, by omega, by go_num, below_drewN' hb _⟩
      case measure => simp [intOf]; omega
    · go_wp2
      go_ret
      exact ⟨rfl, hb⟩
end Go.Proofs.Ythggpcdbnopabaa
