/- The pair to which a path leads, and its word: both sides. -/
import Derived.Test.YtkeadknbdihkmaaDoorWpQ
import Derived.OwnWalk
namespace Go.Proofs.YtkeadknbdihkmaaDoor
open Go.ChangeShapes Go.WideShapes Go.ChangeAt Go.RowKit

/-- What l09Pair returns. -/
def RetP (u v : ByteArray) (k : Int) (w : World) (e : Ending) (w' : World) : Prop := e = .returned (.tuple #[.string u, .string v, (.int .i64 k)]) ∧ Below w.heap.size w w'
/-- What WordOfPath returns. -/
def RetW (p : ByteArray) (k : Int) (w : World) (e : Ending) (w' : World) : Prop := e = .returned (.tuple #[.string p, (.int .i64 k)]) ∧ Below w.heap.size w w'
set_option maxHeartbeats 1000000 in
theorem specPair_long (s : ByteArray) (h : ¬ s.size ≤ 12) (w : World) : Calls Tryd.prog 53 #[.string s] w (RetP ⟨#[]⟩ ⟨#[]⟩ 2 w) := by
  have h1 : (12 : Int) < (s.size : Int) := by omega
  go_enter Tryd.func53, Tryd.ntmps53
  go_wp2
  go_ret3
  exact ⟨rfl, own_refl _⟩
set_option maxHeartbeats 4000000 in
theorem specPair_no (s : ByteArray) (h : s.size ≤ 12) (ho : stepsOk s.data.toList = false) (w : World) : Calls Tryd.prog 53 #[.string s] w (RetP ⟨#[]⟩ ⟨#[]⟩ 2 w) := by
  have HO := Lib.hid ho
  have h1 : ¬ (12 : Int) < (s.size : Int) := by omega
  clear ho
  go_enter Tryd.func53, Tryd.ntmps53
  go_wp2
  go_loopw [5] (fun i wr => ∃ k : Nat, k ≤ s.size ∧ i = (.int .i64 k) ∧ Below w.heap.size w wr ∧ Hid (stepsOk (s.data.toList.take k) = true)) (fun i _ => s.size - (intOf i).toNat)
  case atStart => exact ⟨0, Nat.zero_le _, rfl, own_refl _, Lib.hid rfl⟩
  case round =>
    obtain ⟨k, hk, rfl, T, HX⟩ := hrel
    by_cases hlt : k < s.size
    · by_cases c1 : s[k] = 76
      · have hix : ∀ w, (Instr.index 9 (.string s) (.int .i64 (k : Int))).run Tryd.prog w = .ok (.int .u8 76) w := idx_lit s k 76 hlt c1
        have HN := Lib.hid (stepsOk_take s k hlt HX.out (.inl c1))
        clear c1
        go_wp2
        go_roundw
        case rel => exact ⟨k + 1, by omega, by go_num, T, HN⟩
        case measure => simp [intOf]; omega
      by_cases c2 : s[k] = 82
      · have hix : ∀ w, (Instr.index 9 (.string s) (.int .i64 (k : Int))).run Tryd.prog w = .ok (.int .u8 82) w := idx_lit s k 82 hlt c2
        have HN := Lib.hid (stepsOk_take s k hlt HX.out (.inr c2))
        clear c1 c2
        go_wp2
        go_roundw
        case rel => exact ⟨k + 1, by omega, by go_num, T, HN⟩
        case measure => simp [intOf]; omega
      · obtain ⟨z, hix, HZ⟩ := idx_any s k hlt
        have hz1 : (z == 76) = false := HZ.out 76 c1
        have hz2 : (z == 82) = false := HZ.out 82 c2
        have hy1 : (z != 76) = true := by simp [bne, hz1]
        have hy2 : (z != 82) = true := by simp [bne, hz2]
        clear hz1 hz2 HZ c1 c2
        go_wp2
        go_ret3
        exact ⟨rfl, T⟩
    · exfalso
      have e := HX.out
      rw [take_all s k (by omega), HO.out] at e
      cases e
set_option maxHeartbeats 4000000 in
theorem specPair_yes (s : ByteArray) (h : s.size ≤ 12) (ho : stepsOk s.data.toList = true) (u v : ByteArray) (hw : pathW s.data.toList = (u, v)) (hl : u.size + v.size ≤ 400) (w : World) : Calls Tryd.prog 53 #[.string s] w (RetP u v 0 w) := by
  have HO := Lib.hid ho
  have HW := Lib.hid hw
  have HL := Lib.hid hl
  have h1 : ¬ (12 : Int) < (s.size : Int) := by omega
  clear ho hw hl
  go_enter Tryd.func53, Tryd.ntmps53
  go_wp2
  go_loopw [5] (fun i wr => ∃ k : Nat, k ≤ s.size ∧ i = (.int .i64 k) ∧ Below w.heap.size w wr ∧ Hid (stepsOk (s.data.toList.take k) = true)) (fun i _ => s.size - (intOf i).toNat)
  case atStart => exact ⟨0, Nat.zero_le _, rfl, own_refl _, Lib.hid rfl⟩
  case round =>
    obtain ⟨k, hk, rfl, T, HX⟩ := hrel
    by_cases hlt : k < s.size
    · by_cases c1 : s[k] = 76
      · have hix : ∀ w, (Instr.index 9 (.string s) (.int .i64 (k : Int))).run Tryd.prog w = .ok (.int .u8 76) w := idx_lit s k 76 hlt c1
        have HN := Lib.hid (stepsOk_take s k hlt HX.out (.inl c1))
        clear c1
        go_wp2
        go_roundw
        case rel => exact ⟨k + 1, by omega, by go_num, T, HN⟩
        case measure => simp [intOf]; omega
      by_cases c2 : s[k] = 82
      · have hix : ∀ w, (Instr.index 9 (.string s) (.int .i64 (k : Int))).run Tryd.prog w = .ok (.int .u8 82) w := idx_lit s k 82 hlt c2
        have HN := Lib.hid (stepsOk_take s k hlt HX.out (.inr c2))
        clear c1 c2
        go_wp2
        go_roundw
        case rel => exact ⟨k + 1, by omega, by go_num, T, HN⟩
        case measure => simp [intOf]; omega
      · exfalso
        have := stepsOk_stop s k hlt c1 c2
        rw [HO.out] at this
        cases this
    · clear HX
      go_wp2
      go_loopw [6, 7, 8] (fun a b i wr => ∃ (k : Nat) (x y : ByteArray), k ≤ s.size ∧ a = .string x ∧ b = .string y ∧ i = (.int .i64 k) ∧ Below w.heap.size w wr ∧ Hid (pathW (s.data.toList.take k) = (x, y) ∧ Szs x y k)) (fun _ _ i _ => s.size - (intOf i).toNat)
      case atStart => exact ⟨0, _, _, Nat.zero_le _, rfl, rfl, rfl, T, Lib.hid ⟨rfl, by unfold Szs; decide⟩⟩
      case round =>
        obtain ⟨k, x, y, hk, rfl, rfl, rfl, T, HX⟩ := hrel
        by_cases hlt : k < s.size
        · obtain ⟨b1, b2, b3⟩ := HX.out.2.bd (by omega)
          have hcc : ¬ 9223372036854775807 < x.size + y.size := by omega
          by_cases c1 : s[k] = 76
          · have hix : ∀ w, (Instr.index 9 (.string s) (.int .i64 (k : Int))).run Tryd.prog w = .ok (.int .u8 76) w := idx_lit s k 76 hlt c1
            have HN : Hid (pathW (s.data.toList.take (k + 1)) = (x, x ++ y) ∧ Szs x (x ++ y) (k + 1)) := Lib.hid ⟨by rw [pathW_step s k hlt, HX.out.1, c1]; simp [stepW], HX.out.2.L⟩
            clear b1 b2 b3 c1
            go_wp2
            go_roundw
            case rel => exact ⟨k + 1, _, _, by omega, rfl, rfl, by go_num, T, HN⟩
            case measure => simp [intOf]; omega
          · obtain ⟨z, hix, HZ⟩ := idx_any s k hlt
            have hz1 : (z == 76) = false := HZ.out 76 c1
            have HN : Hid (pathW (s.data.toList.take (k + 1)) = (x ++ y, y) ∧ Szs (x ++ y) y (k + 1)) := Lib.hid ⟨by rw [pathW_step s k hlt, HX.out.1]; simp [stepW, c1], HX.out.2.R⟩
            clear HZ b1 b2 b3 c1
            go_wp2
            go_roundw
            case rel => exact ⟨k + 1, _, _, by omega, rfl, rfl, by go_num, T, HN⟩
            case measure => simp [intOf]; omega
        · have HE : Hid (x = u ∧ y = v) := Lib.hid (by
            have e := HX.out.1
            rw [take_all s k (by omega), HW.out] at e
            exact ⟨congrArg Prod.fst e.symm, congrArg Prod.snd e.symm⟩)
          obtain ⟨b1, b2, b3⟩ := HX.out.2.bd (by omega)
          have hl : ¬ (400 : Int) < (x.size : Int) + (y.size : Int) := by rw [HE.out.1, HE.out.2]; have := HL.out; omega
          go_wp2
          go_ret3
          exact ⟨by rw [HE.out.1, HE.out.2]; rfl, T⟩
set_option maxHeartbeats 4000000 in
theorem specPair_lim (s : ByteArray) (h : s.size ≤ 12) (ho : stepsOk s.data.toList = true) (u v : ByteArray) (hw : pathW s.data.toList = (u, v)) (hl : ¬ u.size + v.size ≤ 400) (w : World) : Calls Tryd.prog 53 #[.string s] w (RetP ⟨#[]⟩ ⟨#[]⟩ 3 w) := by
  have HO := Lib.hid ho
  have HW := Lib.hid hw
  have HL := Lib.hid hl
  have h1 : ¬ (12 : Int) < (s.size : Int) := by omega
  clear ho hw hl
  go_enter Tryd.func53, Tryd.ntmps53
  go_wp2
  go_loopw [5] (fun i wr => ∃ k : Nat, k ≤ s.size ∧ i = (.int .i64 k) ∧ Below w.heap.size w wr ∧ Hid (stepsOk (s.data.toList.take k) = true)) (fun i _ => s.size - (intOf i).toNat)
  case atStart => exact ⟨0, Nat.zero_le _, rfl, own_refl _, Lib.hid rfl⟩
  case round =>
    obtain ⟨k, hk, rfl, T, HX⟩ := hrel
    by_cases hlt : k < s.size
    · by_cases c1 : s[k] = 76
      · have hix : ∀ w, (Instr.index 9 (.string s) (.int .i64 (k : Int))).run Tryd.prog w = .ok (.int .u8 76) w := idx_lit s k 76 hlt c1
        have HN := Lib.hid (stepsOk_take s k hlt HX.out (.inl c1))
        clear c1
        go_wp2
        go_roundw
        case rel => exact ⟨k + 1, by omega, by go_num, T, HN⟩
        case measure => simp [intOf]; omega
      by_cases c2 : s[k] = 82
      · have hix : ∀ w, (Instr.index 9 (.string s) (.int .i64 (k : Int))).run Tryd.prog w = .ok (.int .u8 82) w := idx_lit s k 82 hlt c2
        have HN := Lib.hid (stepsOk_take s k hlt HX.out (.inr c2))
        clear c1 c2
        go_wp2
        go_roundw
        case rel => exact ⟨k + 1, by omega, by go_num, T, HN⟩
        case measure => simp [intOf]; omega
      · exfalso
        have := stepsOk_stop s k hlt c1 c2
        rw [HO.out] at this
        cases this
    · clear HX
      go_wp2
      go_loopw [6, 7, 8] (fun a b i wr => ∃ (k : Nat) (x y : ByteArray), k ≤ s.size ∧ a = .string x ∧ b = .string y ∧ i = (.int .i64 k) ∧ Below w.heap.size w wr ∧ Hid (pathW (s.data.toList.take k) = (x, y) ∧ Szs x y k)) (fun _ _ i _ => s.size - (intOf i).toNat)
      case atStart => exact ⟨0, _, _, Nat.zero_le _, rfl, rfl, rfl, T, Lib.hid ⟨rfl, by unfold Szs; decide⟩⟩
      case round =>
        obtain ⟨k, x, y, hk, rfl, rfl, rfl, T, HX⟩ := hrel
        by_cases hlt : k < s.size
        · obtain ⟨b1, b2, b3⟩ := HX.out.2.bd (by omega)
          have hcc : ¬ 9223372036854775807 < x.size + y.size := by omega
          by_cases c1 : s[k] = 76
          · have hix : ∀ w, (Instr.index 9 (.string s) (.int .i64 (k : Int))).run Tryd.prog w = .ok (.int .u8 76) w := idx_lit s k 76 hlt c1
            have HN : Hid (pathW (s.data.toList.take (k + 1)) = (x, x ++ y) ∧ Szs x (x ++ y) (k + 1)) := Lib.hid ⟨by rw [pathW_step s k hlt, HX.out.1, c1]; simp [stepW], HX.out.2.L⟩
            clear b1 b2 b3 c1
            go_wp2
            go_roundw
            case rel => exact ⟨k + 1, _, _, by omega, rfl, rfl, by go_num, T, HN⟩
            case measure => simp [intOf]; omega
          · obtain ⟨z, hix, HZ⟩ := idx_any s k hlt
            have hz1 : (z == 76) = false := HZ.out 76 c1
            have HN : Hid (pathW (s.data.toList.take (k + 1)) = (x ++ y, y) ∧ Szs (x ++ y) y (k + 1)) := Lib.hid ⟨by rw [pathW_step s k hlt, HX.out.1]; simp [stepW, c1], HX.out.2.R⟩
            clear HZ b1 b2 b3 c1
            go_wp2
            go_roundw
            case rel => exact ⟨k + 1, _, _, by omega, rfl, rfl, by go_num, T, HN⟩
            case measure => simp [intOf]; omega
        · have HE : Hid (x = u ∧ y = v) := Lib.hid (by
            have e := HX.out.1
            rw [take_all s k (by omega), HW.out] at e
            exact ⟨congrArg Prod.fst e.symm, congrArg Prod.snd e.symm⟩)
          obtain ⟨b1, b2, b3⟩ := HX.out.2.bd (by omega)
          have hl : (400 : Int) < (x.size : Int) + (y.size : Int) := by rw [HE.out.1, HE.out.2]; have := HL.out; omega
          go_wp2
          go_ret3
          exact ⟨rfl, T⟩
set_option maxHeartbeats 1000000 in
theorem implWop_bad (s : ByteArray) (hs : ∀ w, Calls Tryd.prog 57 #[.string s] w fun e w' => e = .returned (.tuple #[.agg #[.string ByteArray.empty, .string ByteArray.empty], (.int .i64 2)]) ∧ Below w.heap.size w w') (w : World) : Calls Tryd.prog 54 #[.string s] w (RetW ⟨#[]⟩ 2 w) := by
  have HS := Lib.hid hs
  clear hs
  go_enter Tryd.func54, Tryd.ntmps54
  go_wp2_with fail
  refine (HS.out _).mono ?_
  rintro e w1 ⟨rfl, hb1⟩
  go_wp2
  go_ret2
  exact ⟨rfl, by repeat (first | with_reducible exact own_refl _ | with_reducible assumption | with_reducible apply own_alloc | with_reducible apply own_drewN | with_reducible apply own_drew | ((with_reducible refine own_setCell ?_ ?_ _); rotate_left; focus (first | (simp; done) | (simp; omega))) | (with_reducible (refine own_trans ?_ (by assumption))))⟩
set_option maxHeartbeats 1000000 in
theorem implWop_yes (s : ByteArray) (u v : ByteArray) (h1 : u.size ≤ 10000 ∧ v.size ≤ 10000 ∧ 1 ≤ v.size) (hl : u.size + v.size ≤ 400) (hs : ∀ w, Calls Tryd.prog 57 #[.string s] w fun e w' => e = .returned (.tuple #[.agg #[.string u, .string v], (.int .i64 0)]) ∧ Below w.heap.size w w') (w : World) : Calls Tryd.prog 54 #[.string s] w (RetW (u ++ v) 0 w) := by
  obtain ⟨p, hp⟩ : ∃ p, u ++ v = p := ⟨_, rfl⟩
  have HC := Lib.hid (fun w => product_is u v p h1.1 h1.2.1 h1.2.2 hp w)
  have HS := Lib.hid hs
  have hl2 : ¬ (400 : Int) < (p.size : Int) := by rw [← hp, ByteArray.size_append]; omega
  first | rw [hp] | skip
  clear hs hp hl h1
  go_enter Tryd.func54, Tryd.ntmps54
  go_wp2_with fail
  refine (HS.out _).mono ?_
  rintro e w1 ⟨rfl, hb1⟩
  have B1 : Box (w1.alloc (.cells #[.string u, .string v] 74)) w1.heap.size [.string u, .string v] := Box.new _ _ _
  obtain ⟨_, _, _, _, _⟩ := B1.two
  go_wp2_with fail
  refine (HC.out _).mono ?_
  rintro e w2 ⟨rfl, hb2⟩
  go_wp2
  go_ret2
  exact ⟨rfl, by repeat (first | with_reducible exact own_refl _ | with_reducible assumption | with_reducible apply own_alloc | with_reducible apply own_drewN | with_reducible apply own_drew | ((with_reducible refine own_setCell ?_ ?_ _); rotate_left; focus (first | (simp; done) | (simp; omega))) | (with_reducible (refine own_trans ?_ (by assumption))))⟩
set_option maxHeartbeats 1000000 in
theorem implWop_lim (s : ByteArray) (u v : ByteArray) (h1 : u.size ≤ 10000 ∧ v.size ≤ 10000 ∧ 1 ≤ v.size) (hl : ¬ u.size + v.size ≤ 400) (hs : ∀ w, Calls Tryd.prog 57 #[.string s] w fun e w' => e = .returned (.tuple #[.agg #[.string u, .string v], (.int .i64 0)]) ∧ Below w.heap.size w w') (w : World) : Calls Tryd.prog 54 #[.string s] w (RetW ⟨#[]⟩ 3 w) := by
  obtain ⟨p, hp⟩ : ∃ p, u ++ v = p := ⟨_, rfl⟩
  have HC := Lib.hid (fun w => product_is u v p h1.1 h1.2.1 h1.2.2 hp w)
  have HS := Lib.hid hs
  have hl2 : (400 : Int) < (p.size : Int) := by rw [← hp, ByteArray.size_append]; omega
  first | rw [hp] | skip
  clear hs hp hl h1
  go_enter Tryd.func54, Tryd.ntmps54
  go_wp2_with fail
  refine (HS.out _).mono ?_
  rintro e w1 ⟨rfl, hb1⟩
  have B1 : Box (w1.alloc (.cells #[.string u, .string v] 74)) w1.heap.size [.string u, .string v] := Box.new _ _ _
  obtain ⟨_, _, _, _, _⟩ := B1.two
  go_wp2_with fail
  refine (HC.out _).mono ?_
  rintro e w2 ⟨rfl, hb2⟩
  go_wp2
  go_ret2
  exact ⟨rfl, by repeat (first | with_reducible exact own_refl _ | with_reducible assumption | with_reducible apply own_alloc | with_reducible apply own_drewN | with_reducible apply own_drew | ((with_reducible refine own_setCell ?_ ?_ _); rotate_left; focus (first | (simp; done) | (simp; omega))) | (with_reducible (refine own_trans ?_ (by assumption))))⟩
theorem foldW_bd (bs : List UInt8) : ∀ (p : ByteArray × ByteArray) (k : Nat), Szs p.1 p.2 k → Szs (bs.foldl stepW p).1 (bs.foldl stepW p).2 (k + bs.length) := by
  induction bs with
  | nil => intro p k h; exact h
  | cons c r ih =>
    intro p k h
    have := ih (stepW p c) (k + 1) (by
      unfold stepW
      split
      · exact h.L
      · exact h.R)
    rw [List.foldl_cons, List.length_cons, show k + (r.length + 1) = k + 1 + r.length by omega]
    exact this
theorem pathW_bd (bs : List UInt8) : Szs (pathW bs).1 (pathW bs).2 bs.length := by
  have := foldW_bd bs (⟨#[97]⟩, ⟨#[98]⟩) 0 (by unfold Szs; decide)
  rwa [Nat.zero_add] at this
end Go.Proofs.YtkeadknbdihkmaaDoor
