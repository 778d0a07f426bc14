/- Both sides of MatricesWithin. -/
import Derived.Test.YtmlbbhhjjepmkaaMwM
import Derived.Test.YtmlbbhhjjepmkaaGrM
namespace Go.Proofs.Ytmlbbhhjjepmkaa
open Go.ChangeShapes Go.WideShapes Go.ChangeAt Go.RowKit

/-- What a call that makes a slice of matrices gives back. -/
def RetA (n : Nat) (xs : List Int) (k : Int) (w : World) (e : Ending) (w' : World) : Prop :=
  ∃ v, e = .returned (.tuple #[v, (.int .i64 k)]) ∧ SlA w' w.heap.size w'.heap.size v n xs ∧ Below w.heap.size w w'
/-- What the loops keep: the list so far, in new memory, of at most m matrices. -/
def LA (w wr : World) (v : Value) (m : Nat) (xs : List Int) : Prop := Below w.heap.size w wr ∧ ∃ n, n ≤ m ∧ GrA wr w.heap.size v n xs
theorem LA.step {w wr w2 : World} {v : Value} {m : Nat} {xs : List Int} (h : LA w wr v m xs) (hb : Below wr.heap.size wr w2) : LA w w2 v m xs := by
  obtain ⟨hT, n, hn, hG⟩ := h
  exact ⟨own_trans hT hb, n, hn, hG.own hb⟩
theorem LA.le {w wr : World} {v : Value} {m m' : Nat} {xs ys : List Int} (h : LA w wr v m xs) (hm : m ≤ m') (e : xs = ys) : LA w wr v m' ys := by
  subst e
  obtain ⟨hT, n, hn, hG⟩ := h
  exact ⟨hT, n, Nat.le_trans hn hm, hG⟩
theorem one4_yes {a b c d : Int} (h : a * d - b * c = 1) : one4 a b c d = [a, b, c, d] := if_pos h
theorem one4_no {a b c d : Int} (h : ¬ a * d - b * c = 1) : one4 a b c d = [] := if_neg h
theorem isM_small {a b c d : Int} (ha : -3 ≤ a ∧ a ≤ 3) (hb : -3 ≤ b ∧ b ≤ 3) (hc : -3 ≤ c ∧ c ≤ 3) (hd : -3 ≤ d ∧ d ≤ 3) : isM a b c d = decide (a * d - b * c = 1) := by
  unfold isM
  rw [Bool.eq_iff_iff, decide_eq_true_iff, decide_eq_true_iff]
  unfold Ent
  constructor
  · exact fun h => h.2.2.2.2
  · exact fun h => ⟨by omega, by omega, by omega, by omega, h⟩
theorem mul_small {a d : Int} (ha : -3 ≤ a ∧ a ≤ 3) (hd : -3 ≤ d ∧ d ≤ 3) : -9 ≤ a * d ∧ a * d ≤ 9 := by
  have := mul_bd (A := 3) (D := 3) ha hd
  omega

set_option maxHeartbeats 4000000 in
theorem implMw_no (n : Int) (h : ¬ (0 ≤ n ∧ n ≤ 3)) (w : World) : Calls Try.prog 18 #[(.int .i64 n)] w (RetA 0 [] 2 w) := by
  rcases (show n < 0 ∨ 3 < n by omega) with hn | hn
  all_goals
    clear h
    go_enter Try.func18, Try.ntmps18
    go_wp2
    go_ret2
    exact ⟨_, rfl, SlA.nil _ _ _ (Nat.le_refl _), by repeat (first | with_reducible exact own_refl _ | with_reducible assumption | with_reducible apply own_alloc | with_reducible apply own_drewN | with_reducible apply own_drew | ((with_reducible refine own_setCell ?_ ?_ _); rotate_left; focus (first | (simp; done) | (simp; omega))) | (with_reducible (refine own_trans ?_ (by assumption))))⟩
set_option maxHeartbeats 8000000 in
theorem implMw_yes (n : Int) (h1 : 0 ≤ n) (h2 : n ≤ 3) (N : Nat) (hN : (N : Int) = 2 * n + 1) (w : World) : Calls Try.prog 18 #[(.int .i64 n)] w fun e w' => ∃ m, m ≤ 100000 ∧ RetA m (al (-n) N N) 0 w e w' := by
  have hN7 : N ≤ 7 := by omega
  have HN := Lib.hid hN
  clear hN
  go_enter Try.func18, Try.ntmps18
  go_wp2
  go_loopw [4, 5] (fun v i wr => ∃ k : Nat, k ≤ N ∧ i = (.int .i64 (-n + k)) ∧ LA w wr v (k * 343) (al (-n) N k)) (fun _ i _ => (n + 1 - intOf i).toNat)
  case atStart => exact ⟨0, Nat.zero_le _, by simp, by repeat (first | with_reducible exact own_refl _ | with_reducible assumption | with_reducible apply own_alloc | with_reducible apply own_drewN | with_reducible apply own_drew | ((with_reducible refine own_setCell ?_ ?_ _); rotate_left; focus (first | (simp; done) | (simp; omega))) | (with_reducible (refine own_trans ?_ (by assumption)))), 0, Nat.zero_le _, GrA.nil _ _⟩
  case round =>
    obtain ⟨k, hk, rfl, hL⟩ := hrel
    obtain ⟨a, ha⟩ : ∃ a : Int, -n + k = a := ⟨_, rfl⟩
    have HA := Lib.hid ha
    have hab : -3 ≤ a ∧ a ≤ 4 := by have := HN.out; omega
    simp only [ha]
    by_cases hlt : k < N
    · have hle : a ≤ n := by have := HN.out; omega
      have hge : -n ≤ a := by omega
      clear ha
      go_wp2
      go_loopw [4, 6] (fun v i wr => ∃ k2 : Nat, k2 ≤ N ∧ i = (.int .i64 (-n + k2)) ∧ LA w wr v (k * 343 + k2 * 49) (al (-n) N k ++ bl (-n) N a k2)) (fun _ i _ => (n + 1 - intOf i).toNat)
      case atStart => exact ⟨0, Nat.zero_le _, by simp, hL.le (by omega) (by simp [bl])⟩
      case round =>
        clear hL
        obtain ⟨k2, hk2, rfl, hL⟩ := hrel
        obtain ⟨b, hb⟩ : ∃ b : Int, -n + k2 = b := ⟨_, rfl⟩
        have HB := Lib.hid hb
        have hbb : -3 ≤ b ∧ b ≤ 4 := by have := HN.out; omega
        simp only [hb]
        by_cases hlt2 : k2 < N
        · have hle2 : b ≤ n := by have := HN.out; omega
          have hge2 : -n ≤ b := by omega
          clear hb
          go_wp2
          go_loopw [4, 7] (fun v i wr => ∃ k3 : Nat, k3 ≤ N ∧ i = (.int .i64 (-n + k3)) ∧ LA w wr v (k * 343 + k2 * 49 + k3 * 7) (al (-n) N k ++ bl (-n) N a k2 ++ cl (-n) N a b k3)) (fun _ i _ => (n + 1 - intOf i).toNat)
          case atStart => exact ⟨0, Nat.zero_le _, by simp, hL.le (by omega) (by simp [cl])⟩
          case round =>
            clear hL
            obtain ⟨k3, hk3, rfl, hL⟩ := hrel
            obtain ⟨c, hc⟩ : ∃ c : Int, -n + k3 = c := ⟨_, rfl⟩
            have HC := Lib.hid hc
            have hcb : -3 ≤ c ∧ c ≤ 4 := by have := HN.out; omega
            simp only [hc]
            by_cases hlt3 : k3 < N
            · have hle3 : c ≤ n := by have := HN.out; omega
              have hge3 : -n ≤ c := by omega
              clear hc
              go_wp2
              go_loopw [4, 8] (fun v i wr => ∃ k4 : Nat, k4 ≤ N ∧ i = (.int .i64 (-n + k4)) ∧ LA w wr v (k * 343 + k2 * 49 + k3 * 7 + k4) (al (-n) N k ++ bl (-n) N a k2 ++ cl (-n) N a b k3 ++ dl (-n) a b c k4)) (fun _ i _ => (n + 1 - intOf i).toNat)
              case atStart => exact ⟨0, Nat.zero_le _, by simp, hL.le (by omega) (by simp [dl])⟩
              case round =>
                clear hL
                obtain ⟨k4, hk4, rfl, hL⟩ := hrel
                obtain ⟨d, hd⟩ : ∃ d : Int, -n + k4 = d := ⟨_, rfl⟩
                have HD := Lib.hid hd
                have hdb : -3 ≤ d ∧ d ≤ 4 := by have := HN.out; omega
                simp only [hd]
                by_cases hlt4 : k4 < N
                · have hle4 : d ≤ n := by have := HN.out; omega
                  have hge4 : -n ≤ d := by omega
                  clear hd
                  have m1 := mul_small (a := a) (d := d) (by omega) (by omega)
                  have m2 := mul_small (a := b) (d := c) (by omega) (by omega)
                  obtain ⟨T, m, hm, hG⟩ := hL
                  obtain ⟨ad, cap, hv⟩ := hG.shape
                  subst hv
                  have hz := T.size
                  by_cases hdet : a * d - b * c = 1
                  · have HO := Lib.hid (one4_yes hdet)
                    have HI := Lib.hid (show isM a b c d = true by rw [isM_small (by omega) (by omega) (by omega) (by omega)]; exact decide_eq_true hdet)
                    clear hdet
                    go_wp2_with fail
                    refine (implIs_is true _ _ _ _ _ HI.out).mono ?_
                    rintro e w2 ⟨rfl, hb2⟩
                    have T2 : Below w.heap.size w w2 := by repeat (first | with_reducible exact own_refl _ | with_reducible assumption | with_reducible apply own_alloc | with_reducible apply own_drewN | with_reducible apply own_drew | ((with_reducible refine own_setCell ?_ ?_ _); rotate_left; focus (first | (simp; done) | (simp; omega))) | (with_reducible (refine own_trans ?_ (by assumption))))
                    have hG2 := (hG.alloc (.cells #[.int .i64 a, .int .i64 b, .int .i64 c, .int .i64 d] 26)).own hb2
                    have B2 : Box w2 wr.heap.size [.int .i64 a, .int .i64 b, .int .i64 c, .int .i64 d] := Box.below (Box.new _ _ _) hb2
                    have hz2 := T2.size
                    obtain ⟨_, _, _, _, _, _, _, _, _⟩ := B2.four
                    go_wp2_with (at_builtin; refine appA rfl _ _ rfl w.heap.size w2 (.slice ad m cap) m _ a b c d rfl hG2 w2.heap.size rfl rfl (by omega) hz2 ?_; intro v' w3 hG3 hb3)
                    go_roundw
                    case rel => exact ⟨k4 + 1, by omega, by have := HD.out; go_num, ⟨T2.trans hb3, m + 1, by omega, by rw [dl, ← List.append_assoc, HD.out, HO.out]; exact hG3⟩⟩
                    case measure => simp [intOf]; omega
                  · have HO := Lib.hid (one4_no hdet)
                    have HI := Lib.hid (show isM a b c d = false by rw [isM_small (by omega) (by omega) (by omega) (by omega)]; exact decide_eq_false hdet)
                    clear hdet
                    go_wp2_with fail
                    refine (implIs_is false _ _ _ _ _ HI.out).mono ?_
                    rintro e w2 ⟨rfl, hb2⟩
                    have T2 : Below w.heap.size w w2 := by repeat (first | with_reducible exact own_refl _ | with_reducible assumption | with_reducible apply own_alloc | with_reducible apply own_drewN | with_reducible apply own_drew | ((with_reducible refine own_setCell ?_ ?_ _); rotate_left; focus (first | (simp; done) | (simp; omega))) | (with_reducible (refine own_trans ?_ (by assumption))))
                    have hG2 := (hG.alloc (.cells #[.int .i64 a, .int .i64 b, .int .i64 c, .int .i64 d] 26)).own hb2
                    have B2 : Box w2 wr.heap.size [.int .i64 a, .int .i64 b, .int .i64 c, .int .i64 d] := Box.below (Box.new _ _ _) hb2
                    have hz2 := T2.size
                    obtain ⟨_, _, _, _, _, _, _, _, _⟩ := B2.four
                    go_wp2
                    go_roundw
                    case rel => exact ⟨k4 + 1, by omega, by have := HD.out; go_num, ⟨T2, m, by omega, by rw [dl, ← List.append_assoc, HD.out, HO.out, List.append_nil]; exact hG2⟩⟩
                    case measure => simp [intOf]; omega
                · have HE := Lib.hid (show k4 = N by omega)
                  have hgt : n < d := by have := HN.out; omega
                  clear hd
                  go_wp2
                  go_roundw
                  case rel => exact ⟨k3 + 1, by omega, by have := HC.out; go_num, hL.le (by omega) (by rw [HE.out, cl, HC.out]; try simp only [List.append_assoc])⟩
                  case measure => simp [intOf]; omega
            · have HE := Lib.hid (show k3 = N by omega)
              have hgt : n < c := by have := HN.out; omega
              clear hc
              go_wp2
              go_roundw
              case rel => exact ⟨k2 + 1, by omega, by have := HB.out; go_num, hL.le (by omega) (by rw [HE.out, bl, HB.out]; try simp only [List.append_assoc])⟩
              case measure => simp [intOf]; omega
        · have HE := Lib.hid (show k2 = N by omega)
          have hgt : n < b := by have := HN.out; omega
          clear hb
          go_wp2
          go_roundw
          case rel => exact ⟨k + 1, by omega, by have := HA.out; go_num, hL.le (by omega) (by rw [HE.out, al, HA.out]; try simp only [List.append_assoc])⟩
          case measure => simp [intOf]; omega
    · have HE := Lib.hid (show k = N by omega)
      have hgt : n < a := by have := HN.out; omega
      clear ha
      obtain ⟨T, m, hm, hG⟩ := hL
      obtain ⟨ad, cap, hv⟩ := hG.shape
      subst hv
      go_wp2
      go_ret2
      refine ⟨m, by omega, _, rfl, ?_, T⟩
      have := hG.sl
      rwa [HE.out] at this
set_option maxHeartbeats 4000000 in
theorem specMw_no (n : Int) (h : ¬ (0 ≤ n ∧ n ≤ 3)) (w : World) : Calls Try.prog 15 #[(.int .i64 n)] w (RetA 0 [] 2 w) := by
  have H := Lib.hid (show inR n 0 3 = false from decide_eq_false h)
  clear h
  go_enter Try.func15, Try.ntmps15
  go_wp2_with fail
  refine (l01In_is false _ _ _ H.out _).mono ?_
  rintro e w1 ⟨rfl, rfl⟩
  go_wp2
  go_ret2
  exact ⟨_, rfl, SlA.nil _ _ _ (Nat.le_refl _), by repeat (first | with_reducible exact own_refl _ | with_reducible assumption | with_reducible apply own_alloc | with_reducible apply own_drewN | with_reducible apply own_drew | ((with_reducible refine own_setCell ?_ ?_ _); rotate_left; focus (first | (simp; done) | (simp; omega))) | (with_reducible (refine own_trans ?_ (by assumption))))⟩
set_option maxHeartbeats 8000000 in
theorem specMw_yes (n : Int) (h1 : 0 ≤ n) (h2 : n ≤ 3) (N : Nat) (hN : (N : Int) = 2 * n + 1) (w : World) : Calls Try.prog 15 #[(.int .i64 n)] w fun e w' => ∃ m, m ≤ 100000 ∧ RetA m (al (-n) N N) 0 w e w' := by
  have hN7 : N ≤ 7 := by omega
  have HN := Lib.hid hN
  clear hN
  have H := Lib.hid (show inR n 0 3 = true from decide_eq_true ⟨h1, h2⟩)
  go_enter Try.func15, Try.ntmps15
  go_wp2_with fail
  refine (l01In_is true _ _ _ H.out _).mono ?_
  rintro e w1 ⟨rfl, rfl⟩
  go_wp2
  go_loopw [4, 5] (fun v i wr => ∃ k : Nat, k ≤ N ∧ i = (.int .i64 (-n + k)) ∧ LA w wr v (k * 343) (al (-n) N k)) (fun _ i _ => (n + 1 - intOf i).toNat)
  case atStart => exact ⟨0, Nat.zero_le _, by simp, by repeat (first | with_reducible exact own_refl _ | with_reducible assumption | with_reducible apply own_alloc | with_reducible apply own_drewN | with_reducible apply own_drew | ((with_reducible refine own_setCell ?_ ?_ _); rotate_left; focus (first | (simp; done) | (simp; omega))) | (with_reducible (refine own_trans ?_ (by assumption)))), 0, Nat.zero_le _, GrA.madeAt rfl (Nat.le_refl _)⟩
  case round =>
    obtain ⟨k, hk, rfl, hL⟩ := hrel
    obtain ⟨a, ha⟩ : ∃ a : Int, -n + k = a := ⟨_, rfl⟩
    have HA := Lib.hid ha
    have hab : -3 ≤ a ∧ a ≤ 4 := by have := HN.out; omega
    simp only [ha]
    by_cases hlt : k < N
    · have hle : a ≤ n := by have := HN.out; omega
      have hge : -n ≤ a := by omega
      clear ha
      go_wp2
      go_loopw [4, 6] (fun v i wr => ∃ k2 : Nat, k2 ≤ N ∧ i = (.int .i64 (-n + k2)) ∧ LA w wr v (k * 343 + k2 * 49) (al (-n) N k ++ bl (-n) N a k2)) (fun _ i _ => (n + 1 - intOf i).toNat)
      case atStart => exact ⟨0, Nat.zero_le _, by simp, hL.le (by omega) (by simp [bl])⟩
      case round =>
        clear hL
        obtain ⟨k2, hk2, rfl, hL⟩ := hrel
        obtain ⟨b, hb⟩ : ∃ b : Int, -n + k2 = b := ⟨_, rfl⟩
        have HB := Lib.hid hb
        have hbb : -3 ≤ b ∧ b ≤ 4 := by have := HN.out; omega
        simp only [hb]
        by_cases hlt2 : k2 < N
        · have hle2 : b ≤ n := by have := HN.out; omega
          have hge2 : -n ≤ b := by omega
          clear hb
          go_wp2
          go_loopw [4, 7] (fun v i wr => ∃ k3 : Nat, k3 ≤ N ∧ i = (.int .i64 (-n + k3)) ∧ LA w wr v (k * 343 + k2 * 49 + k3 * 7) (al (-n) N k ++ bl (-n) N a k2 ++ cl (-n) N a b k3)) (fun _ i _ => (n + 1 - intOf i).toNat)
          case atStart => exact ⟨0, Nat.zero_le _, by simp, hL.le (by omega) (by simp [cl])⟩
          case round =>
            clear hL
            obtain ⟨k3, hk3, rfl, hL⟩ := hrel
            obtain ⟨c, hc⟩ : ∃ c : Int, -n + k3 = c := ⟨_, rfl⟩
            have HC := Lib.hid hc
            have hcb : -3 ≤ c ∧ c ≤ 4 := by have := HN.out; omega
            simp only [hc]
            by_cases hlt3 : k3 < N
            · have hle3 : c ≤ n := by have := HN.out; omega
              have hge3 : -n ≤ c := by omega
              clear hc
              go_wp2
              go_loopw [4, 8] (fun v i wr => ∃ k4 : Nat, k4 ≤ N ∧ i = (.int .i64 (-n + k4)) ∧ LA w wr v (k * 343 + k2 * 49 + k3 * 7 + k4) (al (-n) N k ++ bl (-n) N a k2 ++ cl (-n) N a b k3 ++ dl (-n) a b c k4)) (fun _ i _ => (n + 1 - intOf i).toNat)
              case atStart => exact ⟨0, Nat.zero_le _, by simp, hL.le (by omega) (by simp [dl])⟩
              case round =>
                clear hL
                obtain ⟨k4, hk4, rfl, hL⟩ := hrel
                obtain ⟨d, hd⟩ : ∃ d : Int, -n + k4 = d := ⟨_, rfl⟩
                have HD := Lib.hid hd
                have hdb : -3 ≤ d ∧ d ≤ 4 := by have := HN.out; omega
                simp only [hd]
                by_cases hlt4 : k4 < N
                · have hle4 : d ≤ n := by have := HN.out; omega
                  have hge4 : -n ≤ d := by omega
                  clear hd
                  have m1 := mul_small (a := a) (d := d) (by omega) (by omega)
                  have m2 := mul_small (a := b) (d := c) (by omega) (by omega)
                  obtain ⟨T, m, hm, hG⟩ := hL
                  obtain ⟨ad, cap, hv⟩ := hG.shape
                  subst hv
                  have hz := T.size
                  by_cases hdet : a * d - b * c = 1
                  · have HO := Lib.hid (one4_yes hdet)
                    have hdb' : (a * d - b * c == 1) = true := by simpa using hdet
                    clear hdet
                    have T2 := T
                    have hG2 := hG
                    have hz2 := hz
                    go_wp2_with (at_builtin; refine appA rfl _ _ rfl w.heap.size wr (.slice ad m cap) m _ a b c d rfl hG2 wr.heap.size rfl rfl (by omega) hz2 ?_; intro v' w3 hG3 hb3)
                    go_roundw
                    case rel => exact ⟨k4 + 1, by omega, by have := HD.out; go_num, ⟨T2.trans hb3, m + 1, by omega, by rw [dl, ← List.append_assoc, HD.out, HO.out]; exact hG3⟩⟩
                    case measure => simp [intOf]; omega
                  · have HO := Lib.hid (one4_no hdet)
                    have hdb' : (a * d - b * c == 1) = false := by simpa using hdet
                    clear hdet
                    have T2 := T
                    have hG2 := hG
                    have hz2 := hz
                    go_wp2
                    go_roundw
                    case rel => exact ⟨k4 + 1, by omega, by have := HD.out; go_num, ⟨T2, m, by omega, by rw [dl, ← List.append_assoc, HD.out, HO.out, List.append_nil]; exact hG2⟩⟩
                    case measure => simp [intOf]; omega
                · have HE := Lib.hid (show k4 = N by omega)
                  have hgt : n < d := by have := HN.out; omega
                  clear hd
                  go_wp2
                  go_roundw
                  case rel => exact ⟨k3 + 1, by omega, by have := HC.out; go_num, hL.le (by omega) (by rw [HE.out, cl, HC.out]; try simp only [List.append_assoc])⟩
                  case measure => simp [intOf]; omega
            · have HE := Lib.hid (show k3 = N by omega)
              have hgt : n < c := by have := HN.out; omega
              clear hc
              go_wp2
              go_roundw
              case rel => exact ⟨k2 + 1, by omega, by have := HB.out; go_num, hL.le (by omega) (by rw [HE.out, bl, HB.out]; try simp only [List.append_assoc])⟩
              case measure => simp [intOf]; omega
        · have HE := Lib.hid (show k2 = N by omega)
          have hgt : n < b := by have := HN.out; omega
          clear hb
          go_wp2
          go_roundw
          case rel => exact ⟨k + 1, by omega, by have := HA.out; go_num, hL.le (by omega) (by rw [HE.out, al, HA.out]; try simp only [List.append_assoc])⟩
          case measure => simp [intOf]; omega
    · have HE := Lib.hid (show k = N by omega)
      have hgt : n < a := by have := HN.out; omega
      clear ha
      obtain ⟨T, m, hm, hG⟩ := hL
      obtain ⟨ad, cap, hv⟩ := hG.shape
      subst hv
      go_wp2
      go_ret2
      refine ⟨m, by omega, _, rfl, ?_, T⟩
      have := hG.sl
      rwa [HE.out] at this
end Go.Proofs.Ytmlbbhhjjepmkaa
