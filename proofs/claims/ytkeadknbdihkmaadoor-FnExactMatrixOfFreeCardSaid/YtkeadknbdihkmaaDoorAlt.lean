/- impl.hasEachSecondS: contract. -/
import Derived.Test.YtkeadknbdihkmaaDoorLet
namespace Go.Proofs.YtkeadknbdihkmaaDoor
open Go.ChangeShapes Go.WideShapes Go.ChangeAt Go.RowKit

/-- The byte at j is an S. -/
def bS (s : ByteArray) (j : Nat) : Bool := s.data.toList.getD j 0 == 83
/-- Up to k, each second letter is an S. -/
def AltTo (s : ByteArray) (k : Nat) : Prop := ∀ j, j + 1 < k → (bS s j == bS s (j + 1)) = false
theorem AltTo.step {s : ByteArray} {k : Nat} (h : AltTo s (k + 1)) (hb : (bS s k == bS s (k + 1)) = false) : AltTo s (k + 1 + 1) := by
  intro j hj
  by_cases e : j = k
  · subst e; exact hb
  · exact h j (by omega)
theorem AltTo.one (s : ByteArray) : AltTo s 1 := fun j hj => by omega
theorem bS_lit (s : ByteArray) (j : Nat) (hj : j < s.size) : bS s j = (s[j] == 83) := by
  have hl : j < s.data.toList.length := by rw [str_len]; exact hj
  unfold bS
  rw [List.getD, List.getElem?_eq_getElem hl, Option.getD_some, str_at s j hj hl]
theorem idx_b (s : ByteArray) (j : Nat) (hj : j < s.size) : ∃ x : Int, (∀ w, (Instr.index 9 (.string s) (.int .i64 (j : Int))).run Tryd.prog w = .ok (.int .u8 x) w) ∧ (x == 83) = bS s j ∧ Hid ((s[j].toNat : Int) = x) := by
  refine ⟨_, idx_str s j hj, ?_, Lib.hid rfl⟩
  rw [bS_lit s j hj]
  by_cases h : s[j] = 83
  · rw [h]; rfl
  · have h2 : (s[j] == 83) = false := by simpa using h
    rw [h2]
    exact byte_ne h
noncomputable def altOk (s : ByteArray) : Bool := @decide (AltTo s s.size) (Classical.propDecidable _)
theorem altOk_no {s : ByteArray} {k : Nat} (hk : k + 1 < s.size) (h : (bS s k == bS s (k + 1)) = true) : altOk s = false := by
  refine @decide_eq_false _ (Classical.propDecidable _) fun q => ?_
  have := q k hk
  rw [h] at this
  cases this
theorem altOk_yes {s : ByteArray} {k : Nat} (hk : s.size ≤ k) (h : AltTo s k) : altOk s = true := @decide_eq_true _ (Classical.propDecidable _) fun j hj => h j (by omega)
set_option maxRecDepth 100000 in
set_option maxHeartbeats 2000000 in
theorem alt_any (s : ByteArray) (hn : s.size ≤ 200) (r : Bool) (hr : altOk s = r) (w : World) :
    Calls Tryd.prog 63 #[.string s] w fun e w' => e = .returned (.bool r) ∧ Below w.heap.size w w' := by
  have HR := Lib.hid hr
  clear hr
  go_enter Tryd.func63, Tryd.ntmps63
  go_wp2
  go_loopw [3] (fun i wr => ∃ j : Nat, (j = 0 ∨ j + 1 ≤ s.size) ∧ i = .int .i64 ((j : Int) + 1) ∧ Hid (AltTo s (j + 1)) ∧ Below w.heap.size w wr) (fun i _ => s.size + 1 - (intOf i).toNat)
  case atStart => exact ⟨0, .inl rfl, rfl, Lib.hid (AltTo.one s), by repeat (first | with_reducible exact own_refl _ | with_reducible assumption | with_reducible apply own_alloc | with_reducible apply own_drewN | with_reducible apply own_drew | ((with_reducible refine own_setCell ?_ ?_ _); rotate_left; focus (first | (simp; done) | (simp; omega))) | (with_reducible (refine own_trans ?_ (by assumption))))⟩
  case round =>
    obtain ⟨j, hj, rfl, HA, T⟩ := hrel
    by_cases hlt : j + 1 < s.size
    · obtain ⟨x0, hix0, e0, HX0⟩ := idx_b s j (by omega)
      obtain ⟨x1, hix1, e1, HX1⟩ := idx_b s (j + 1) hlt
      have HNO := Lib.hid (fun h => altOk_no hlt h)
      have HYE := Lib.hid (fun h => AltTo.step HA.out h)
      have hx1 : ∀ w, (Instr.index 9 (.string s) (.int .i64 ((j : Int) + 1))).run Tryd.prog w = .ok (.int .u8 x1) w := hix1
      clear hix1 HX0 HX1 HA
      have T2 := own_drew T
      generalize bS s j = b0 at e0 HNO HYE
      generalize bS s (j + 1) = b1 at e1 HNO HYE
      cases b0 <;> cases b1
      · have HF := Lib.hid (HNO.out rfl)
        go_upto_region 4 with fail
        go_quiet (fail)
        go_wp2
        go_ret
        exact ⟨by rw [← HR.out, HF.out]; rfl, by repeat (first | with_reducible exact own_refl _ | with_reducible assumption | with_reducible apply own_alloc | with_reducible apply own_drewN | with_reducible apply own_drew | ((with_reducible refine own_setCell ?_ ?_ _); rotate_left; focus (first | (simp; done) | (simp; omega))) | (with_reducible (refine own_trans ?_ (by assumption))))⟩
      · have HS := Lib.hid (HYE.out rfl)
        go_upto_region 4 with fail
        go_quiet (fail)
        go_wp2
        go_roundw
        case rel => exact ⟨j + 1, .inr (by omega), by go_num, HS, by repeat (first | with_reducible exact own_refl _ | with_reducible assumption | with_reducible apply own_alloc | with_reducible apply own_drewN | with_reducible apply own_drew | ((with_reducible refine own_setCell ?_ ?_ _); rotate_left; focus (first | (simp; done) | (simp; omega))) | (with_reducible (refine own_trans ?_ (by assumption))))⟩
        case measure => simp [intOf]; omega
      · have HS := Lib.hid (HYE.out rfl)
        go_upto_region 4 with fail
        go_quiet (fail)
        go_wp2
        go_roundw
        case rel => exact ⟨j + 1, .inr (by omega), by go_num, HS, by repeat (first | with_reducible exact own_refl _ | with_reducible assumption | with_reducible apply own_alloc | with_reducible apply own_drewN | with_reducible apply own_drew | ((with_reducible refine own_setCell ?_ ?_ _); rotate_left; focus (first | (simp; done) | (simp; omega))) | (with_reducible (refine own_trans ?_ (by assumption))))⟩
        case measure => simp [intOf]; omega
      · have HF := Lib.hid (HNO.out rfl)
        go_upto_region 4 with fail
        go_quiet (fail)
        go_wp2
        go_ret
        exact ⟨by rw [← HR.out, HF.out]; rfl, by repeat (first | with_reducible exact own_refl _ | with_reducible assumption | with_reducible apply own_alloc | with_reducible apply own_drewN | with_reducible apply own_drew | ((with_reducible refine own_setCell ?_ ?_ _); rotate_left; focus (first | (simp; done) | (simp; omega))) | (with_reducible (refine own_trans ?_ (by assumption))))⟩
    · have HT := Lib.hid (altOk_yes (k := j + 1) (by omega) HA.out)
      go_wp2
      go_ret
      exact ⟨by rw [← HR.out, HT.out]; rfl, by repeat (first | with_reducible exact own_refl _ | with_reducible assumption | with_reducible apply own_alloc | with_reducible apply own_drewN | with_reducible apply own_drew | ((with_reducible refine own_setCell ?_ ?_ _); rotate_left; focus (first | (simp; done) | (simp; omega))) | (with_reducible (refine own_trans ?_ (by assumption))))⟩
end Go.Proofs.YtkeadknbdihkmaaDoor
