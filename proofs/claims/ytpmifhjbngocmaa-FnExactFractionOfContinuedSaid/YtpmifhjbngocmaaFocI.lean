/- impl.isContinued: contract. -/
import Derived.Test.YtpmifhjbngocmaaMocE
import Derived.Test.YtpmifhjbngocmaaA
namespace Go.Proofs.Ytpmifhjbngocmaa
open Go.ChangeShapes Go.WideShapes Go.ChangeAt Go.RowKit

/-- the numbers of a continued fraction -/
def contP (xs : List Int) : Prop :=
  1 ≤ xs.length ∧ xs.length ≤ 60 ∧ Ent (xs.getD 0 0) ∧ (∀ i, 1 ≤ i → i < xs.length → 1 ≤ xs.getD i 0 ∧ xs.getD i 0 ≤ 1000000000) ∧ (1 < xs.length → xs.getD (xs.length - 1) 0 ≠ 1)
set_option maxHeartbeats 1000000 in
theorem min_any (b off cap : Nat) (ys : List Int) (h1 : 1 ≤ ys.length) (hn : ys.length ≤ 1000000) (w : World) (hc : ∀ k, k < ys.length → w.cell? ⟨b, off + k, none⟩ = some (.int .i64 (ys.getD k 0))) :
    Calls Try.prog 39 #[.slice (some ⟨b, off, none⟩) ys.length cap] w fun e w' => ∃ m : Int, e = .returned (.int .i64 m) ∧ Hid (∀ c : Int, c ≤ m ↔ ∀ k, k < ys.length → c ≤ ys.getD k 0) ∧ w = w' := by
  have HC := Lib.hid hc
  obtain ⟨y0, hy0⟩ : ∃ y, ys.getD 0 0 = y := ⟨_, rfl⟩
  have c0 : w.cell? ⟨b, off, none⟩ = some (.int .i64 y0) := by have := hc 0 (by omega); rwa [hy0] at this
  clear hc
  go_enter Try.func39, Try.ntmps39
  go_wp2
  go_loop [3, 4] (fun v i => ∃ (k : Nat) (m : Int), 1 ≤ k ∧ k ≤ ys.length ∧ v = (.int .i64 m) ∧ i = (.int .i64 k) ∧ Hid (∀ c : Int, c ≤ m ↔ ∀ j, j < k → c ≤ ys.getD j 0)) (fun _ i => ys.length - (intOf i).toNat)
  case atStart =>
    refine ⟨1, y0, Nat.le_refl _, h1, rfl, rfl, Lib.hid fun c => ⟨fun h j hj => ?_, fun h => ?_⟩⟩
    · obtain rfl : j = 0 := by omega
      rw [hy0]; exact h
    · have := h 0 (by omega)
      rwa [hy0] at this
  case round =>
    obtain ⟨k, m, hk1, hk, rfl, rfl, HM⟩ := hrel
    by_cases hlt : k < ys.length
    · obtain ⟨y, hy⟩ : ∃ y, ys.getD k 0 = y := ⟨_, rfl⟩
      have ck := HC.out k hlt
      rw [hy] at ck
      have HN : Hid (∀ c : Int, c ≤ (if y < m then y else m) ↔ ∀ j, j < k + 1 → c ≤ ys.getD j 0) := Lib.hid fun c => by
        have e : (c ≤ (if y < m then y else m)) ↔ (c ≤ m ∧ c ≤ y) := by split <;> omega
        rw [e, HM.out c]
        constructor
        · rintro ⟨h1, h2⟩ j hj
          rcases (show j < k ∨ j = k by omega) with h | h
          · exact h1 j h
          · rw [h, hy]; exact h2
        · intro h
          exact ⟨fun j hj => h j (by omega), by have := h k (by omega); rwa [hy] at this⟩
      clear hy
      go_wp2
      go_round
      case rel => exact ⟨k + 1, _, by omega, by omega, rfl, by go_num, HN⟩
      case measure => simp [intOf]; omega
    · have hke : k = ys.length := by omega
      subst hke
      go_wp2
      go_ret
      exact ⟨m, rfl, HM, rfl⟩
theorem allW_isC (r : Bool) (xs : List Int) (hr : allW xs 1000000000 = r) (b off cap : Nat) (hn : xs.length ≤ 4294967296) (w : World) (hc : ∀ k, k < xs.length → w.cell? ⟨b, off + k, none⟩ = some (.int .i64 (xs.getD k 0))) :
    Calls Try.prog 34 #[.slice (some ⟨b, off, none⟩) xs.length cap, .int .i64 1000000000] w fun e w' => e = .returned (.bool r) ∧ w = w' := by
  subst hr
  exact allWithin_any xs 1000000000 (by omega) (by omega) b off cap hn w hc
theorem allW_at {xs : List Int} (h : allW xs 1000000000 = true) (k : Nat) (hk : k < xs.length) : Ent (xs.getD k 0) := by
  have := List.all_eq_true.1 h (xs.getD k 0) (by simp [List.getD, List.getElem?_eq_getElem hk])
  simpa [inW, Ent] using this
theorem allW_of {xs : List Int} (h : ∀ k, k < xs.length → Ent (xs.getD k 0)) : allW xs 1000000000 = true := by
  refine List.all_eq_true.2 fun x hx => ?_
  obtain ⟨k, hk, rfl⟩ := List.mem_iff_getElem.1 hx
  have := h k hk
  rw [List.getD, List.getElem?_eq_getElem hk] at this
  simpa [inW, Ent] using this
theorem contP_all {xs : List Int} (h : contP xs) : allW xs 1000000000 = true := by
  obtain ⟨_, _, h0, hi, _⟩ := h
  refine allW_of fun k hk => ?_
  rcases Nat.eq_zero_or_pos k with rfl | hp
  · exact h0
  · have := hi k hp hk; unfold Ent; omega
set_option maxHeartbeats 1000000 in
theorem isCont_len (a : Option Addr) (cap : Nat) (xs : List Int) (hn : ¬ (1 ≤ xs.length ∧ xs.length ≤ 60)) (hn' : xs.length ≤ 1048576) (w : World) :
    Calls Try.prog 32 #[.slice a xs.length cap] w fun e w' => e = .returned (.bool false) ∧ w = w' := by
  rcases (show xs.length = 0 ∨ 60 < xs.length by omega) with h | h
  · rw [h]
    go_enter Try.func32, Try.ntmps32
    go_wp2
    go_ret
    exact ⟨rfl, rfl⟩
  · have h1 : (60 : Int) < (xs.length : Int) := by omega
    have h2 : ¬ ((xs.length : Int) < 1) := by omega
    go_enter Try.func32, Try.ntmps32
    go_wp2
    go_ret
    exact ⟨rfl, rfl⟩
set_option maxHeartbeats 2000000 in
theorem isCont_is (r : Bool) (b off : Nat) (xs : List Int) (h1 : 1 ≤ xs.length) (h2 : xs.length ≤ 60) (hr : r = true ↔ contP xs) (w : World) (hc : ∀ k, k < xs.length → w.cell? ⟨b, off + k, none⟩ = some (.int .i64 (xs.getD k 0))) :
    Calls Try.prog 32 #[.slice (some ⟨b, off, none⟩) xs.length xs.length] w fun e w' => e = .returned (.bool r) ∧ w = w' := by
  have HC := Lib.hid hc
  have h3 : ¬ ((xs.length : Int) < 1) := by omega
  have h4 : ¬ (60 < (xs.length : Int)) := by omega
  rcases ha : allW xs 1000000000 with _ | _
  · have HR : Hid (r = false) := Lib.hid (by
      rcases r with _ | _
      · rfl
      · have := contP_all (hr.1 rfl); rw [ha] at this; cases this)
    have HA := Lib.hid ha
    have AW := allW_isC false xs ha b off xs.length (by omega) w hc
    clear ha hr hc
    go_enter Try.func32, Try.ntmps32
    go_wp2_with fail
    refine AW.mono ?_
    rintro e w1 ⟨rfl, rfl⟩
    go_wp2
    go_ret
    exact ⟨ret_bool HR.out.symm, rfl⟩
  have AW := allW_isC true xs ha b off xs.length (by omega) w hc
  have HA := Lib.hid ha
  rcases (show xs.length = 1 ∨ 2 ≤ xs.length by omega) with hl | hl
  · have HR : Hid (r = true) := Lib.hid (hr.2 ⟨h1, h2, allW_at ha 0 (by omega), fun i hi hi' => by omega, fun h => by omega⟩)
    rw [hl] at AW ⊢
    clear ha hr hc h1 h2 h3 h4 hl
    go_enter Try.func32, Try.ntmps32
    go_wp2_with fail
    refine AW.mono ?_
    rintro e w1 ⟨rfl, rfl⟩
    go_wp2
    go_ret
    exact ⟨ret_bool HR.out.symm, rfl⟩
  · obtain ⟨n, hnl⟩ : ∃ n, xs.length = n + 2 := ⟨xs.length - 2, by omega⟩
    obtain ⟨z, hz⟩ : ∃ z, xs.getD (n + 1) 0 = z := ⟨_, rfl⟩
    have HZ := Lib.hid hz
    have cz : w.cell? ⟨b, off + (n + 1), none⟩ = some (.int .i64 z) := by rw [hc (n + 1) (by omega), hz]
    have hl' : ((xs.length : Int) == 1) = false := by simp; omega
    have HT : Hid (∀ k, k < xs.tail.length → w.cell? ⟨b, off + 1 + k, none⟩ = some (.int .i64 (xs.tail.getD k 0))) := Lib.hid fun k hk => by
      rw [List.length_tail] at hk
      rw [Nat.add_assoc, Nat.add_comm 1 k, hc (k + 1) (by omega)]
      simp [List.getD, List.getElem?_tail]
    have HTL : Hid (xs.tail.length = n + 1) := Lib.hid (by simp [hnl])
    have HRR := Lib.hid hr
    clear ha hr hc hz hl
    have HN : Hid (n ≤ 58) := Lib.hid (by omega)
    have hw1 : IntKind.i64.wrap (((n + 2 : Nat) : Int) - 1) = ((n + 1 : Nat) : Int) := by rw [show ((n + 2 : Nat) : Int) - 1 = ((n + 1 : Nat) : Int) by omega]; exact IntWalk.i64_in _ (by omega)
    have hmin := min_any b (off + 1) (n + 1) xs.tail (by rw [HTL.out]; omega) (by rw [HTL.out]; omega) w HT.out
    rw [HTL.out] at hmin
    rw [hnl] at AW ⊢
    have HL := Lib.hid hnl
    clear h1 h2 h3 h4 hnl hl'
    have hnb : n ≤ 58 := HN.out
    have hi3 : ¬ n + 1 = 0 := by omega
    go_enter Try.func32, Try.ntmps32
    go_wp2_with fail
    refine AW.mono ?_
    rintro e w1 ⟨rfl, rfl⟩
    go_wp2_with fail
    refine hmin.mono ?_
    rintro e w1 ⟨m, rfl, HM, rfl⟩
    have htl : ∀ k, xs.tail.getD k 0 = xs.getD (k + 1) 0 := fun k => by simp [List.getD, List.getElem?_tail]
    have HK : Hid (contP xs ↔ (1 ≤ m ∧ 2 ≤ z)) := Lib.hid (by
      constructor
      · rintro ⟨_, _, h0, hi, hlast⟩
        have e1 : 1 ≤ m := (HM.out 1).2 fun k hk => by rw [htl]; exact (hi (k + 1) (by omega) (by rw [HL.out]; omega)).1
        have e2 := (hi (n + 1) (by omega) (by rw [HL.out]; omega)).1
        have e3 := hlast (by rw [HL.out]; omega)
        rw [HL.out, show n + 2 - 1 = n + 1 by omega, HZ.out] at e3
        rw [HZ.out] at e2
        exact ⟨e1, by omega⟩
      · rintro ⟨e1, e2⟩
        refine ⟨by rw [HL.out]; omega, by rw [HL.out]; omega, allW_at HA.out 0 (by rw [HL.out]; omega), fun i hi hi' => ⟨?_, ?_⟩, fun _ => ?_⟩
        · have := (HM.out 1).1 e1 (i - 1) (by rw [HL.out] at hi'; omega)
          rwa [htl, Nat.sub_add_cancel hi] at this
        · have := allW_at HA.out i hi'
          unfold Ent at this; omega
        · rw [HL.out, show n + 2 - 1 = n + 1 by omega, HZ.out]; omega)
    by_cases h1 : 1 ≤ m
    · by_cases h2 : 2 ≤ z
      · have HF : Hid (r = true) := Lib.hid (HRR.out.2 (HK.out.2 ⟨h1, h2⟩))
        go_wp2
        go_ret
        exact ⟨ret_bool HF.out.symm, rfl⟩
      · have HF : Hid (r = false) := Lib.hid (by
          rcases r with _ | _
          · rfl
          · exact absurd (HK.out.1 (HRR.out.1 rfl)).2 h2)
        go_wp2
        go_ret
        exact ⟨ret_bool (by rw [HF.out]; exact decide_eq_false (by omega)), rfl⟩
    · have HF : Hid (r = false) := Lib.hid (by
        rcases r with _ | _
        · rfl
        · exact absurd (HK.out.1 (HRR.out.1 rfl)).1 h1)
      go_wp2
      go_ret
      exact ⟨ret_bool HF.out.symm, rfl⟩
end Go.Proofs.Ytpmifhjbngocmaa
