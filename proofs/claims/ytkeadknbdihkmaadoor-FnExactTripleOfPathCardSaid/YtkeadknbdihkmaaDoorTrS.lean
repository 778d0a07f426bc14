/- The matrix of a word of letters a and b: the model's side. -/
import Derived.Test.YtkeadknbdihkmaaDoorLet
import Derived.Test.YtkeadknbdihkmaaDoorMorS
namespace Go.Proofs.YtkeadknbdihkmaaDoor
open Go.ChangeShapes Go.WideShapes Go.ChangeAt Go.RowKit

def letB (c : UInt8) : Mat := if c = 98 then ⟨3, 2, 4, 3⟩ else ⟨1, 1, 1, 2⟩
def wordB (s : ByteArray) : List Mat := s.data.toList.map letB
theorem letB_is (c : UInt8) : (letB c).is = true := by unfold letB; split <;> decide
theorem wordB_all (s : ByteArray) : (wordB s).all Mat.is = true := by
  unfold wordB
  rw [List.all_map]
  exact List.all_eq_true.2 fun c _ => letB_is c
theorem wordB_len (s : ByteArray) : (wordB s).length = s.size := by unfold wordB; rw [List.length_map, str_len]
theorem wordB_at (s : ByteArray) (k : Nat) (hk : k < s.size) (hk2 : k < (wordB s).length) : (wordB s)[k] = letB s[k] := by
  have h : k < (s.data.toList.map letB).length := hk2
  exact (List.getElem_map letB (h := h)).trans (congrArg letB (str_at s k hk _))
set_option maxRecDepth 100000 in
set_option maxHeartbeats 4000000 in
theorem l09Matrix_any (s : ByteArray) (hs : s.size ≤ 9223372036854775806) (r : Mat) (kd : Int) (hPA : PA (wordB s) r kd) (w : World) : Calls Tryd.prog 49 #[.string s] w (RetM r kd w) := by
  have HP := Lib.hid hPA
  have HALL := Lib.hid (wordB_all s)
  have HLN := Lib.hid (wordB_len s)
  clear hPA
  go_enter Tryd.func49, Tryd.ntmps49
  go_wp2
  go_loopw [5] (fun i wr => ∃ (k : Nat) (p : Mat), k ≤ s.size ∧ i = (.int .i64 k) ∧ Hid (Sofar (wordB s) k p true) ∧ Below w.heap.size w wr ∧ Box wr w.heap.size [.int .i64 0, .int .i64 0, .int .i64 0, .int .i64 0] ∧ Box wr (w.heap.size + 1) p.cells) (fun i _ => s.size - (intOf i).toNat)
  case atStart => exact ⟨0, Mat.one, Nat.zero_le _, rfl, Lib.hid (.inl ⟨rfl, by decide, rfl⟩), by repeat (first | with_reducible exact own_refl _ | with_reducible assumption | with_reducible apply own_alloc | with_reducible apply own_drewN | with_reducible apply own_drew | ((with_reducible refine own_setCell ?_ ?_ _); rotate_left; focus (first | (simp; done) | (simp; omega))) | (with_reducible (refine own_trans ?_ (by assumption)))), Box.alloc (Box.new _ _ _) _, Box.newAt (by simp) _ _⟩
  case round =>
    obtain ⟨k, p, hk, rfl, HSo, T, hR, hP⟩ := hrel
    by_cases hlt : k < s.size
    · have hk2 : k < (wordB s).length := by rw [HLN.out]; exact hlt
      by_cases hb : s[k] = 98
      · have hix : ∀ w, (Instr.index 9 (.string s) (.int .i64 (k : Int))).run Tryd.prog w = .ok (.int .u8 98) w := idx_lit s k 98 hlt hb
        obtain ⟨q, r2, HT⟩ := TM.any p ⟨3, 2, 4, 3⟩
        have HNX := Lib.hid (HSo.out.step hk2 (show (wordB s)[k] = ⟨3, 2, 4, 3⟩ by rw [wordB_at s k hlt hk2]; simp [letB, hb]) HT)
        have HTM := Lib.hid HT
        clear HT hk2 hb
        have T1 := own_alloc T (.cells #[.int .i64 3, .int .i64 2, .int .i64 4, .int .i64 3] 35)
        have P1 := hP.alloc (.cells #[.int .i64 3, .int .i64 2, .int .i64 4, .int .i64 3] 35)
        have R1 := hR.alloc (.cells #[.int .i64 3, .int .i64 2, .int .i64 4, .int .i64 3] 35)
        obtain ⟨_, _, _, _, _, _, _, _, _⟩ := P1.four
        go_wp2_with fail
        refine (times_lit p q 3 2 4 3 r2 HSo.out.ok (by decide) (by decide) (by decide) (by decide) HTM.out _).mono ?_
        rintro e w2 ⟨rfl, hb2⟩
        have T2 := own_trans T1 hb2
        have P2 := P1.below hb2
        have R2 := R1.below hb2
        have hne1 : ¬ (w2.heap.size = w.heap.size) := by have := R2.1; omega
        have hne2 : ¬ (w2.heap.size = w.heap.size + 1) := by have := P2.1; omega
        cases r2
        · have HE := Lib.hid (HNX.out.end_no HP.out HALL.out)
          have R3 := R2.alloc (.cells #[.int .i64 q.a, .int .i64 q.b, .int .i64 q.c, .int .i64 q.d] 35)
          obtain ⟨_, _, _, _, _, _, _, _, _⟩ := R3.four
          go_wp2
          obtain ⟨d0, d1, d2, d3⟩ := R3.reads4' (.int .i64 0) (.int .i64 0) (.int .i64 0) (.int .i64 0)
          refine bodyPost_ret (v := .tuple #[(.agg #[.int .i64 0, .int .i64 0, .int .i64 0, .int .i64 0]), (.int .i64 3)]) (by simp [results, Tryd.results49, go_sem, d0, d1, d2, d3]) rfl ⟨?_, by repeat (first | with_reducible exact own_refl _ | with_reducible assumption | with_reducible apply own_alloc | with_reducible apply own_drewN | with_reducible apply own_drew | ((with_reducible refine own_setCell ?_ ?_ _); rotate_left; focus (first | (simp; done) | (simp; omega))) | (with_reducible (refine own_trans ?_ (by assumption))))⟩
          rw [HE.out.1, HE.out.2]
          rfl
        · have P3 := P2.alloc (.cells #[.int .i64 q.a, .int .i64 q.b, .int .i64 q.c, .int .i64 q.d] 35)
          have R3 := R2.alloc (.cells #[.int .i64 q.a, .int .i64 q.b, .int .i64 q.c, .int .i64 q.d] 35)
          obtain ⟨_, _, _, _, _, _, _, _, _⟩ := P3.four
          go_wp2
          go_roundw
          case rel => exact ⟨k + 1, q, by omega, by go_num, HNX, by repeat (first | with_reducible exact own_refl _ | with_reducible assumption | with_reducible apply own_alloc | with_reducible apply own_drewN | with_reducible apply own_drew | ((with_reducible refine own_setCell ?_ ?_ _); rotate_left; focus (first | (simp; done) | (simp; omega))) | (with_reducible (refine own_trans ?_ (by assumption)))), (((R3.far (by simp) _).far (by simp) _).far (by simp) _).far (by simp) _, P3.put4 _ _ _ _⟩
          case measure => simp [intOf]; omega
      · obtain ⟨x, hix, HX⟩ := idx_any s k hlt
        have hx : (x == 98) = false := HX.out 98 hb
        obtain ⟨q, r2, HT⟩ := TM.any p ⟨1, 1, 1, 2⟩
        have HNX := Lib.hid (HSo.out.step hk2 (show (wordB s)[k] = ⟨1, 1, 1, 2⟩ by rw [wordB_at s k hlt hk2]; simp [letB, hb]) HT)
        have HTM := Lib.hid HT
        clear HT hk2 hb
        have T1 := own_alloc T (.cells #[.int .i64 1, .int .i64 1, .int .i64 1, .int .i64 2] 35)
        have P1 := hP.alloc (.cells #[.int .i64 1, .int .i64 1, .int .i64 1, .int .i64 2] 35)
        have R1 := hR.alloc (.cells #[.int .i64 1, .int .i64 1, .int .i64 1, .int .i64 2] 35)
        obtain ⟨_, _, _, _, _, _, _, _, _⟩ := P1.four
        go_wp2_with fail
        refine (times_lit p q 1 1 1 2 r2 HSo.out.ok (by decide) (by decide) (by decide) (by decide) HTM.out _).mono ?_
        rintro e w2 ⟨rfl, hb2⟩
        have T2 := own_trans T1 hb2
        have P2 := P1.below hb2
        have R2 := R1.below hb2
        have hne1 : ¬ (w2.heap.size = w.heap.size) := by have := R2.1; omega
        have hne2 : ¬ (w2.heap.size = w.heap.size + 1) := by have := P2.1; omega
        cases r2
        · have HE := Lib.hid (HNX.out.end_no HP.out HALL.out)
          have R3 := R2.alloc (.cells #[.int .i64 q.a, .int .i64 q.b, .int .i64 q.c, .int .i64 q.d] 35)
          obtain ⟨_, _, _, _, _, _, _, _, _⟩ := R3.four
          go_wp2
          obtain ⟨d0, d1, d2, d3⟩ := R3.reads4' (.int .i64 0) (.int .i64 0) (.int .i64 0) (.int .i64 0)
          refine bodyPost_ret (v := .tuple #[(.agg #[.int .i64 0, .int .i64 0, .int .i64 0, .int .i64 0]), (.int .i64 3)]) (by simp [results, Tryd.results49, go_sem, d0, d1, d2, d3]) rfl ⟨?_, by repeat (first | with_reducible exact own_refl _ | with_reducible assumption | with_reducible apply own_alloc | with_reducible apply own_drewN | with_reducible apply own_drew | ((with_reducible refine own_setCell ?_ ?_ _); rotate_left; focus (first | (simp; done) | (simp; omega))) | (with_reducible (refine own_trans ?_ (by assumption))))⟩
          rw [HE.out.1, HE.out.2]
          rfl
        · have P3 := P2.alloc (.cells #[.int .i64 q.a, .int .i64 q.b, .int .i64 q.c, .int .i64 q.d] 35)
          have R3 := R2.alloc (.cells #[.int .i64 q.a, .int .i64 q.b, .int .i64 q.c, .int .i64 q.d] 35)
          obtain ⟨_, _, _, _, _, _, _, _, _⟩ := P3.four
          go_wp2
          go_roundw
          case rel => exact ⟨k + 1, q, by omega, by go_num, HNX, by repeat (first | with_reducible exact own_refl _ | with_reducible assumption | with_reducible apply own_alloc | with_reducible apply own_drewN | with_reducible apply own_drew | ((with_reducible refine own_setCell ?_ ?_ _); rotate_left; focus (first | (simp; done) | (simp; omega))) | (with_reducible (refine own_trans ?_ (by assumption)))), (((R3.far (by simp) _).far (by simp) _).far (by simp) _).far (by simp) _, P3.put4 _ _ _ _⟩
          case measure => simp [intOf]; omega
    · have HK : Hid (r = p ∧ kd = 0) := Lib.hid (by
        have e : k = (wordB s).length := by rw [HLN.out]; omega
        have h := HSo.out
        rw [e] at h
        exact h.end_yes HP.out HALL.out)
      obtain ⟨_, _, _, _, _, _, _, _, _⟩ := hP.four
      obtain ⟨_, _, _, _, _, _, _, _, _⟩ := hR.four
      go_wp2
      obtain ⟨d0, d1, d2, d3⟩ := hR.reads4' (.int .i64 p.a) (.int .i64 p.b) (.int .i64 p.c) (.int .i64 p.d)
      refine bodyPost_ret (v := .tuple #[(.agg #[.int .i64 p.a, .int .i64 p.b, .int .i64 p.c, .int .i64 p.d]), (.int .i64 0)]) (by simp [results, Tryd.results49, go_sem, d0, d1, d2, d3]) rfl ⟨?_, by repeat (first | with_reducible exact own_refl _ | with_reducible assumption | with_reducible apply own_alloc | with_reducible apply own_drewN | with_reducible apply own_drew | ((with_reducible refine own_setCell ?_ ?_ _); rotate_left; focus (first | (simp; done) | (simp; omega))) | (with_reducible (refine own_trans ?_ (by assumption))))⟩
      rw [HK.out.1, HK.out.2]
end Go.Proofs.YtkeadknbdihkmaaDoor
