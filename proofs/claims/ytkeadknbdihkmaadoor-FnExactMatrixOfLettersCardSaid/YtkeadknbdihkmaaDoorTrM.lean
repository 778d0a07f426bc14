/- MatrixOfLetters: the model's side. -/
import Derived.Test.YtkeadknbdihkmaaDoorTrI
namespace Go.Proofs.YtkeadknbdihkmaaDoor
open Go.ChangeShapes Go.WideShapes Go.ChangeAt Go.RowKit

set_option maxHeartbeats 2000000 in
theorem specMol_long (s : ByteArray) (hn : ¬ s.size ≤ 400) (w : World) : Calls Tryd.prog 23 #[.string s] w (RetM Mat.zero 2 w) := by
  have hn1 : (400 : Int) < (s.size : Int) := by omega
  go_enter Tryd.func23, Tryd.ntmps23
  go_wp2
  exact bodyPost_ret (v := .tuple #[(.agg #[.int .i64 0, .int .i64 0, .int .i64 0, .int .i64 0]), (.int .i64 2)]) (by simp [results, Tryd.results23, go_sem]) rfl ⟨rfl, by repeat (first | with_reducible exact own_refl _ | with_reducible assumption | with_reducible apply own_alloc | with_reducible apply own_drewN | with_reducible apply own_drew | ((with_reducible refine own_setCell ?_ ?_ _); rotate_left; focus (first | (simp; done) | (simp; omega))) | (with_reducible (refine own_trans ?_ (by assumption))))⟩
theorem treeOk_take (s : ByteArray) (k : Nat) (hk : k < s.size) (h : treeOk (s.data.toList.take k) = true) (hc : s[k] = 97 ∨ s[k] = 98) : treeOk (s.data.toList.take (k + 1)) = true := by
  have hl : k < s.data.toList.length := by rw [str_len]; exact hk
  rw [List.take_succ_eq_append_getElem hl, str_at s k hk hl]
  unfold treeOk at *
  rw [List.all_append, h]
  rcases hc with hc | hc <;> simp [hc]
theorem treeOk_all (s : ByteArray) (k : Nat) (hk : k = s.size) (h : treeOk (s.data.toList.take k) = true) : treeOk s.data.toList = true := by
  rwa [List.take_of_length_le (by rw [str_len]; omega)] at h
set_option maxRecDepth 100000 in
set_option maxHeartbeats 4000000 in
theorem specMol_no (s : ByteArray) (hn : s.size ≤ 400) (ho : treeOk s.data.toList = false) (w : World) : Calls Tryd.prog 23 #[.string s] w (RetM Mat.zero 2 w) := by
  have HO := Lib.hid ho
  have hn1 : ¬ (400 : Int) < (s.size : Int) := by omega
  clear ho
  go_enter Tryd.func23, Tryd.ntmps23
  go_wp2
  go_loopw [4] (fun i wr => ∃ k : Nat, k ≤ s.size ∧ i = (.int .i64 k) ∧ wr = w.alloc (.cells #[.int .i64 0, .int .i64 0, .int .i64 0, .int .i64 0] 35) ∧ Hid (treeOk (s.data.toList.take k) = true)) (fun i _ => s.size - (intOf i).toNat)
  case atStart => exact ⟨0, Nat.zero_le _, rfl, rfl, Lib.hid rfl⟩
  case round =>
    obtain ⟨k, hk, rfl, rfl, HT⟩ := hrel
    by_cases hlt : k < s.size
    · by_cases h1 : s[k] = 97
      · have hix : ∀ w, (Instr.index 9 (.string s) (.int .i64 (k : Int))).run Tryd.prog w = .ok (.int .u8 97) w := idx_lit s k 97 hlt h1
        have HN := Lib.hid (treeOk_take s k hlt HT.out (.inl h1))
        clear h1
        go_wp2
        go_roundw
        case rel => exact ⟨k + 1, by omega, by go_num, by first | rfl | trivial, HN⟩
        case measure => simp [intOf]; omega
      · by_cases h2 : s[k] = 98
        · have hix : ∀ w, (Instr.index 9 (.string s) (.int .i64 (k : Int))).run Tryd.prog w = .ok (.int .u8 98) w := idx_lit s k 98 hlt h2
          have HN := Lib.hid (treeOk_take s k hlt HT.out (.inr h2))
          clear h1 h2
          go_wp2
          go_roundw
          case rel => exact ⟨k + 1, by omega, by go_num, by first | rfl | trivial, HN⟩
          case measure => simp [intOf]; omega
        · obtain ⟨x, hix, HX⟩ := idx_any s k hlt
          have hx1 : (x == 97) = false := HX.out 97 h1
          have hx2 : (x == 98) = false := HX.out 98 h2
          have hy1 : (x != 97) = true := by simp [bne, hx1]
          have hy2 : (x != 98) = true := by simp [bne, hx2]
          clear hx1 hx2
          clear h1 h2 HX
          go_wp2
          exact bodyPost_ret (v := .tuple #[(.agg #[.int .i64 0, .int .i64 0, .int .i64 0, .int .i64 0]), (.int .i64 2)]) (by simp [results, Tryd.results23, go_sem]) rfl ⟨rfl, by repeat (first | with_reducible exact own_refl _ | with_reducible assumption | with_reducible apply own_alloc | with_reducible apply own_drewN | with_reducible apply own_drew | ((with_reducible refine own_setCell ?_ ?_ _); rotate_left; focus (first | (simp; done) | (simp; omega))) | (with_reducible (refine own_trans ?_ (by assumption))))⟩
    · exfalso
      have := treeOk_all s k (by omega) HT.out
      rw [HO.out] at this
      cases this
set_option maxRecDepth 100000 in
set_option maxHeartbeats 4000000 in
theorem specMol_yes (s : ByteArray) (hn : s.size ≤ 400) (ho : treeOk s.data.toList = true) (r : Mat) (kd : Int) (hPA : PA (wordB s) r kd) (w : World) : Calls Tryd.prog 23 #[.string s] w (RetM r kd w) := by
  have HO := Lib.hid ho
  have HC := Lib.hid (l09Matrix_any s (by omega) r kd hPA)
  have hn1 : ¬ (400 : Int) < (s.size : Int) := by omega
  clear ho hPA
  go_enter Tryd.func23, Tryd.ntmps23
  go_wp2
  go_loopw [4] (fun i wr => ∃ k : Nat, k ≤ s.size ∧ i = (.int .i64 k) ∧ wr = w.alloc (.cells #[.int .i64 0, .int .i64 0, .int .i64 0, .int .i64 0] 35)) (fun i _ => s.size - (intOf i).toNat)
  case atStart => exact ⟨0, Nat.zero_le _, rfl, rfl⟩
  case round =>
    obtain ⟨k, hk, rfl, rfl⟩ := hrel
    by_cases hlt : k < s.size
    · by_cases h1 : s[k] = 97
      · have hix : ∀ w, (Instr.index 9 (.string s) (.int .i64 (k : Int))).run Tryd.prog w = .ok (.int .u8 97) w := idx_lit s k 97 hlt h1
        clear h1
        go_wp2
        go_roundw
        case rel => exact ⟨k + 1, by omega, by go_num, by first | rfl | trivial⟩
        case measure => simp [intOf]; omega
      · by_cases h2 : s[k] = 98
        · have hix : ∀ w, (Instr.index 9 (.string s) (.int .i64 (k : Int))).run Tryd.prog w = .ok (.int .u8 98) w := idx_lit s k 98 hlt h2
          clear h1 h2
          go_wp2
          go_roundw
          case rel => exact ⟨k + 1, by omega, by go_num, by first | rfl | trivial⟩
          case measure => simp [intOf]; omega
        · exfalso
          have := treeOk_stop s k hlt h1 h2
          rw [HO.out] at this
          cases this
    · have B0 : Box (w.alloc (.cells #[.int .i64 0, .int .i64 0, .int .i64 0, .int .i64 0] 35)) w.heap.size [.int .i64 0, .int .i64 0, .int .i64 0, .int .i64 0] := Box.new _ _ _
      go_wp2_with fail
      refine (HC.out _).mono ?_
      rintro e w1 ⟨rfl, hb1⟩
      have R1 := (B0.below hb1).alloc (.cells #[.int .i64 r.a, .int .i64 r.b, .int .i64 r.c, .int .i64 r.d] 35)
      have hne : ¬ (w1.heap.size = w.heap.size) := by have := (B0.below hb1).1; omega
      obtain ⟨_, _, _, _, _, _, _, _, _⟩ := R1.four
      go_wp2
      obtain ⟨d0, d1, d2, d3⟩ := R1.reads4' (.int .i64 r.a) (.int .i64 r.b) (.int .i64 r.c) (.int .i64 r.d)
      exact bodyPost_ret (v := .tuple #[(.agg #[.int .i64 r.a, .int .i64 r.b, .int .i64 r.c, .int .i64 r.d]), (.int .i64 kd)]) (by simp [results, Tryd.results23, go_sem, d0, d1, d2, d3]) rfl ⟨rfl, by repeat (first | with_reducible exact own_refl _ | with_reducible assumption | with_reducible apply own_alloc | with_reducible apply own_drewN | with_reducible apply own_drew | ((with_reducible refine own_setCell ?_ ?_ _); rotate_left; focus (first | (simp; done) | (simp; omega))) | (with_reducible (refine own_trans ?_ (by assumption))))⟩
end Go.Proofs.YtkeadknbdihkmaaDoor
