/- Lists of the numbers below n, each once: both sides' tests. -/
import Derived.Test.YtfchfakkbdfajaaDoorAcA
import Derived.Test.YtfchfakkbdfajaaDoorB
namespace Go.Proofs.YtfchfakkbdfajaaDoor
open Go.ChangeShapes Go.WideShapes Go.ChangeAt Go.RowKit

theorem info_boolA : (Tryd.prog.info? 4).map (fun i => (i.zero, i.size, i.bytes)) = some (some (.bool false), 1, 1) := by kernel_rfl
theorem mkBools (n : Nat) (hn : n ≤ 1048576) (w : World) : (Instr.makeSlice 101 (.int .i64 n) (.int .i64 n)).run Tryd.prog w =
    .ok (.slice (some ⟨w.heap.size, 0, none⟩) n n) (w.alloc (.cells (Array.replicate n (Value.bool false)) 4)) := by
  obtain ⟨i0, hi, hz0, hz1, hz2⟩ := info_parts info_boolA
  have h := run_make (P := Tryd.prog) (w := w) 101 4 i0 (.bool false) Tryd.underlying101 hi hz0 .i64 .i64 n n (by omega) (Int.le_refl _) (by rw [hz2]; omega) (by omega)
  rw [h, hz1]
  have e : madeCells (Value.bool false).cells ((n : Int).toNat * 1) = Array.replicate n (Value.bool false) := by
    apply Array.ext
    · simp [size_madeCells]
    · intro i h1 h2
      simp [madeCells, Value.cells, Nat.mod_one]
  rw [e]
  simp
theorem boxBools {w : World} {g : Nat} (hg : w.heap.size = g) (n : Nat) : Box (w.alloc (.cells (Array.replicate n (Value.bool false)) 4)) g ((List.replicate n false).map Value.bool) := by
  have e2 : Array.replicate n (Value.bool false) = ((List.replicate n false).map Value.bool).toArray := by simp
  rw [e2]
  exact Box.newAt hg _ _
theorem bools_at {m : List Bool} {j : Nat} (h : j < m.length) (d : Bool) : (m.map Value.bool)[j]? = some (.bool (m.getD j d)) := by simp [List.getD, h]
theorem bools_set (m : List Bool) (j : Nat) : (m.set j true).map Value.bool = (m.map Value.bool).set j (.bool true) := by rw [List.map_set]
theorem drop_at {xs : List Int} {k : Nat} (h : k < xs.length) : xs.drop k = xs.getD k 0 :: xs.drop (k + 1) := by
  rw [List.drop_eq_getElem_cons h]
  simp [List.getD, h]
theorem ordG_no {x : Int} {r : List Int} {m : List Bool} (h : ¬ (0 ≤ x ∧ x < (m.length : Int) ∧ m.getD x.toNat false = false)) : ordG (x :: r) m = false := by rw [ordG, if_neg h]
theorem ordG_yes {j : Nat} {r : List Int} {m : List Bool} (h1 : j < m.length) (h2 : m.getD j false = false) : ordG ((j : Int) :: r) m = ordG r (m.set j true) := by
  rw [ordG, if_pos ⟨by omega, by omega, by simpa using h2⟩]
  simp
set_option maxHeartbeats 2000000 in
theorem hasEach_is (v : Value) (xs : List Int) (n : Nat) (hn : n ≤ 1048576) (w : World) (h : Rl w v xs) :
    Calls Tryd.prog 54 #[v, (.int .i64 n)] w fun e w' => e = .returned (.bool (ord xs n)) ∧ Below w.heap.size w w' := by
  obtain ⟨ad, cap, rfl, hr⟩ := h
  by_cases he : xs.length = n
  · have HO : Hid (ordG (xs.drop 0) (List.replicate n false) = ord xs n) := Lib.hid (by simp [ord, he])
    have HR := Lib.hid hr
    have HE := Lib.hid he
    rw [he]
    clear hr he
    generalize ord xs n = res at *
    have hmk := mkBools n hn
    have BX := boxBools (w := w) rfl n
    have T0 := own_alloc (own_refl w) (.cells (Array.replicate n (Value.bool false)) 4)
    go_enter Tryd.func54, Tryd.ntmps54
    go_wp2
    generalize w.alloc (.cells (Array.replicate n (Value.bool false)) 4) = w1 at *
    go_loopw [16] (fun i wr => ∃ (k : Nat) (m : List Bool), k ≤ n ∧ i = (.int .i64 k) ∧ m.length = n ∧ Below w.heap.size w wr ∧ Box wr w.heap.size (m.map Value.bool) ∧ Hid (ordG (xs.drop k) m = res)) (fun i _ => n - (intOf i).toNat)
    case atStart => exact ⟨0, _, Nat.zero_le _, rfl, by simp, T0, BX, HO⟩
    case round =>
      obtain ⟨k, m, hk, rfl, hm, T, B, HG⟩ := hrel
      by_cases hlt : k < n
      · have hkx : k < xs.length := by rw [HE.out]; exact hlt
        obtain ⟨g, rfl, hrc⟩ := HR.out (by omega)
        have c1 := (hrc.below T).2 k hkx
        have HD := Lib.hid (HG.out.symm.trans (by rw [drop_at hkx]))
        generalize xs.getD k 0 = x at *
        clear HG hrc hkx
        by_cases h0 : x < 0
        · have HF : Hid (false = res) := Lib.hid (by rw [HD.out]; exact (ordG_no (by omega)).symm)
          clear HD
          go_wp2
          go_ret
          exact ⟨ret_bool HF.out, T⟩
        · obtain ⟨j, rfl⟩ : ∃ j : Nat, x = j := ⟨x.toNat, by omega⟩
          by_cases hj : j < n
          · obtain ⟨c2, f2⟩ := B.2 j _ (bools_at (by omega) false)
            rcases hb : m.getD j false with _ | _
            · have HF : Hid (ordG (xs.drop (k + 1)) (m.set j true) = res) := Lib.hid (by rw [HD.out]; exact (ordG_yes (by omega) hb).symm)
              rw [hb] at c2
              have B2 := B.set j (by simp; omega) (.bool true)
              rw [← bools_set] at B2
              clear HD hb h0
              go_wp2
              go_roundw
              case rel => exact ⟨k + 1, _, by omega, by go_num, by simpa using hm, own_setCell T (Nat.le_refl _) _, B2, HF⟩
              case measure => simp [intOf]; omega
            · have HF : Hid (false = res) := Lib.hid (by rw [HD.out]; exact (ordG_no fun h => by have h2 := h.2.2; rw [show ((j : Int)).toNat = j by omega, hb] at h2; cases h2).symm)
              rw [hb] at c2
              clear HD hb h0
              go_wp2
              go_ret
              exact ⟨ret_bool HF.out, T⟩
          · have HF : Hid (false = res) := Lib.hid (by rw [HD.out]; exact (ordG_no (by omega)).symm)
            clear HD
            go_wp2
            go_ret
            exact ⟨ret_bool HF.out, T⟩
      · have HF : Hid (true = res) := Lib.hid (by
          rw [← HG.out, List.drop_eq_nil_of_le (by have := HE.out; omega)]
          rfl)
        go_wp2
        go_ret
        exact ⟨ret_bool HF.out, T⟩
  · have e : ord xs n = false := by simp [ord, he]
    rw [e]
    clear hr e
    generalize xs.length = m at *
    go_enter Tryd.func54, Tryd.ntmps54
    go_wp2
    go_ret
    exact ⟨rfl, by repeat (first | with_reducible exact own_refl _ | with_reducible assumption | with_reducible apply own_alloc | with_reducible apply own_drewN | with_reducible apply own_drew | ((with_reducible refine own_setCell ?_ ?_ _); rotate_left; focus (first | (simp; done) | (simp; omega))) | (with_reducible (refine own_trans ?_ (by assumption))))⟩
set_option maxHeartbeats 2000000 in
theorem l10Order_is (v : Value) (xs : List Int) (n : Nat) (hn : n ≤ 1048576) (w : World) (h : Rl w v xs) :
    Calls Tryd.prog 78 #[v, (.int .i64 n)] w fun e w' => e = .returned (.bool (ord xs n)) ∧ Below w.heap.size w w' := by
  obtain ⟨ad, cap, rfl, hr⟩ := h
  have hmk := mkBools n hn
  have BX := boxBools (w := w) rfl n
  have T0 := own_alloc (own_refl w) (.cells (Array.replicate n (Value.bool false)) 4)
  by_cases he : xs.length = n
  · have HO : Hid (ordG (xs.drop 0) (List.replicate n false) = ord xs n) := Lib.hid (by simp [ord, he])
    have HR := Lib.hid hr
    have HE := Lib.hid he
    rw [he]
    clear hr he
    generalize ord xs n = res at *
    go_enter Tryd.func78, Tryd.ntmps78
    go_wp2
    generalize w.alloc (.cells (Array.replicate n (Value.bool false)) 4) = w1 at *
    go_loopw [6] (fun i wr => ∃ (k : Nat) (m : List Bool), k ≤ n ∧ i = (.int .i64 k) ∧ m.length = n ∧ Below w.heap.size w wr ∧ Box wr w.heap.size (m.map Value.bool) ∧ Hid (ordG (xs.drop k) m = res)) (fun i _ => n - (intOf i).toNat)
    case atStart => exact ⟨0, _, Nat.zero_le _, rfl, by simp, T0, BX, HO⟩
    case round =>
      obtain ⟨k, m, hk, rfl, hm, T, B, HG⟩ := hrel
      by_cases hlt : k < n
      · have hkx : k < xs.length := by rw [HE.out]; exact hlt
        obtain ⟨g, rfl, hrc⟩ := HR.out (by omega)
        have c1 := (hrc.below T).2 k hkx
        have HD := Lib.hid (HG.out.symm.trans (by rw [drop_at hkx]))
        generalize xs.getD k 0 = x at *
        clear HG hrc hkx
        have HI := Lib.hid (fun b (h : inR x 0 ((n : Int) - 1) = b) w => l01In_is b x 0 ((n : Int) - 1) h w)
        by_cases hx : 0 ≤ x ∧ x < n
        · obtain ⟨j, rfl⟩ : ∃ j : Nat, x = j := ⟨x.toNat, by omega⟩
          have hj : j < n := by omega
          have HT := Lib.hid (HI.out true (decide_eq_true (by omega)))
          obtain ⟨c2, f2⟩ := B.2 j _ (bools_at (by omega) false)
          rcases hb : m.getD j false with _ | _
          · have HF : Hid (ordG (xs.drop (k + 1)) (m.set j true) = res) := Lib.hid (by rw [HD.out]; exact (ordG_yes (by omega) hb).symm)
            rw [hb] at c2
            have B2 := B.set j (by simp; omega) (.bool true)
            rw [← bools_set] at B2
            clear HD hb HI hx
            go_wp2_with fail
            refine (HT.out _).mono ?_
            rintro e w2 ⟨rfl, rfl⟩
            go_wp2
            go_roundw
            case rel => exact ⟨k + 1, _, by omega, by go_num, by simpa using hm, own_setCell T (Nat.le_refl _) _, B2, HF⟩
            case measure => simp [intOf]; omega
          · have HF : Hid (false = res) := Lib.hid (by rw [HD.out]; exact (ordG_no fun h => by have h2 := h.2.2; rw [show ((j : Int)).toNat = j by omega, hb] at h2; cases h2).symm)
            rw [hb] at c2
            clear HD hb HI hx
            go_wp2_with fail
            refine (HT.out _).mono ?_
            rintro e w2 ⟨rfl, rfl⟩
            go_wp2
            go_ret
            exact ⟨ret_bool HF.out, T⟩
        · have HF : Hid (false = res) := Lib.hid (by rw [HD.out]; exact (ordG_no (by omega)).symm)
          have HT := Lib.hid (HI.out false (decide_eq_false (by omega)))
          clear HD HI hx
          go_wp2_with fail
          refine (HT.out _).mono ?_
          rintro e w2 ⟨rfl, rfl⟩
          go_wp2
          go_ret
          exact ⟨ret_bool HF.out, T⟩
      · have HF : Hid (true = res) := Lib.hid (by
          rw [← HG.out, List.drop_eq_nil_of_le (by have := HE.out; omega)]
          rfl)
        go_wp2
        go_ret
        exact ⟨ret_bool HF.out, T⟩
  · have e : ord xs n = false := by simp [ord, he]
    rw [e]
    clear hr e
    generalize xs.length = m at *
    go_enter Tryd.func78, Tryd.ntmps78
    go_wp2
    go_ret
    exact ⟨rfl, by repeat (first | with_reducible exact own_refl _ | with_reducible assumption | with_reducible apply own_alloc | with_reducible apply own_drewN | with_reducible apply own_drew | ((with_reducible refine own_setCell ?_ ?_ _); rotate_left; focus (first | (simp; done) | (simp; omega))) | (with_reducible (refine own_trans ?_ (by assumption))))⟩
end Go.Proofs.YtfchfakkbdfajaaDoor
