/- MatrixOfWord: contracts of both sides. -/
import Derived.Test.YtkeadknbdihkmaaDoorWord
import Derived.Test.YtkeadknbdihkmaaDoorMorS
namespace Go.Proofs.YtkeadknbdihkmaaDoor
open Go.ChangeShapes Go.WideShapes Go.ChangeAt Go.RowKit

/-- The letters of words. -/
noncomputable def wordM (c : UInt8) : Option Mat := ltA esWord (byteK c)
theorem wordM_S : wordM 83 = some ⟨0, -1, 1, 0⟩ := by simp [wordM, ltA, esWord]
theorem wordM_T : wordM 84 = some ⟨1, 1, 0, 1⟩ := by simp [wordM, ltA, esWord, byteK_eq]
theorem wordM_t : wordM 116 = some ⟨1, -1, 0, 1⟩ := by simp [wordM, ltA, esWord, byteK_eq]
theorem wordM_L : wordM 76 = some ⟨1, 0, 1, 1⟩ := by simp [wordM, ltA, esWord, byteK_eq]
theorem wordM_l : wordM 108 = some ⟨1, 0, -1, 1⟩ := by simp [wordM, ltA, esWord, byteK_eq]
theorem wordM_no {c : UInt8} (h1 : c ≠ 83) (h2 : c ≠ 84) (h3 : c ≠ 116) (h4 : c ≠ 76) (h5 : c ≠ 108) : wordM c = none := by simp [wordM, ltA, esWord, byteK_eq, h1, h2, h3, h4, h5]
theorem wordM_is {c : UInt8} {m : Mat} (h : wordM c = some m) : m.is = true := by
  by_cases h1 : c = 83
  · subst h1; rw [wordM_S] at h; cases h; decide
  by_cases h2 : c = 84
  · subst h2; rw [wordM_T] at h; cases h; decide
  by_cases h3 : c = 116
  · subst h3; rw [wordM_t] at h; cases h; decide
  by_cases h4 : c = 76
  · subst h4; rw [wordM_L] at h; cases h; decide
  by_cases h5 : c = 108
  · subst h5; rw [wordM_l] at h; cases h; decide
  rw [wordM_no h1 h2 h3 h4 h5] at h; cases h
theorem spell_is {f : Lit → Option Mat} (hf : ∀ c m, f (byteK c) = some m → m.is = true) (bs : List UInt8) : ∀ ms, spell f bs = some ms → ms.all Mat.is = true := by
  induction bs with
  | nil => intro ms h; simp only [spell, Option.some.injEq] at h; subst h; rfl
  | cons d r ih =>
    intro ms h
    simp only [spell] at h
    rcases e1 : f (byteK d) with _ | x
    · rw [e1] at h; simp at h
    · rcases e2 : spell f r with _ | y
      · rw [e1, e2] at h; simp at h
      · rw [e1, e2] at h
        simp only [Option.some.injEq] at h
        subst h
        rw [List.all_cons, hf d x e1, ih y e2]
        rfl
set_option maxHeartbeats 2000000 in
theorem l02Letter_any (c : UInt8) (w : World) :
    Calls Tryd.prog 59 #[.int .u8 (c.toNat : Int)] w fun e w' => e = .returned (.tuple #[matV ((wordM c).getD Mat.zero), .bool (wordM c).isSome]) ∧ Below w.heap.size w w' := by
  by_cases h1 : c = 83
  · subst h1; rw [wordM_S]; show Calls Tryd.prog 59 #[.int .u8 83] w _
    go_enter Tryd.func59, Tryd.ntmps59
    go_wp2
    exact bodyPost_ret (v := .tuple #[(.agg #[.int .i64 0, .int .i64 (-1), .int .i64 1, .int .i64 0]), .bool true]) (by simp [results, Tryd.results59, go_sem]) rfl ⟨rfl, by repeat (first | with_reducible exact own_refl _ | with_reducible assumption | with_reducible apply own_alloc | with_reducible apply own_drewN | with_reducible apply own_drew | ((with_reducible refine own_setCell ?_ ?_ _); rotate_left; focus (first | (simp; done) | (simp; omega))) | (with_reducible (refine own_trans ?_ (by assumption))))⟩
  by_cases h2 : c = 84
  · subst h2; rw [wordM_T]; show Calls Tryd.prog 59 #[.int .u8 84] w _
    go_enter Tryd.func59, Tryd.ntmps59
    go_wp2
    exact bodyPost_ret (v := .tuple #[(.agg #[.int .i64 1, .int .i64 1, .int .i64 0, .int .i64 1]), .bool true]) (by simp [results, Tryd.results59, go_sem]) rfl ⟨rfl, by repeat (first | with_reducible exact own_refl _ | with_reducible assumption | with_reducible apply own_alloc | with_reducible apply own_drewN | with_reducible apply own_drew | ((with_reducible refine own_setCell ?_ ?_ _); rotate_left; focus (first | (simp; done) | (simp; omega))) | (with_reducible (refine own_trans ?_ (by assumption))))⟩
  by_cases h3 : c = 116
  · subst h3; rw [wordM_t]; show Calls Tryd.prog 59 #[.int .u8 116] w _
    go_enter Tryd.func59, Tryd.ntmps59
    go_wp2
    exact bodyPost_ret (v := .tuple #[(.agg #[.int .i64 1, .int .i64 (-1), .int .i64 0, .int .i64 1]), .bool true]) (by simp [results, Tryd.results59, go_sem]) rfl ⟨rfl, by repeat (first | with_reducible exact own_refl _ | with_reducible assumption | with_reducible apply own_alloc | with_reducible apply own_drewN | with_reducible apply own_drew | ((with_reducible refine own_setCell ?_ ?_ _); rotate_left; focus (first | (simp; done) | (simp; omega))) | (with_reducible (refine own_trans ?_ (by assumption))))⟩
  by_cases h4 : c = 76
  · subst h4; rw [wordM_L]; show Calls Tryd.prog 59 #[.int .u8 76] w _
    go_enter Tryd.func59, Tryd.ntmps59
    go_wp2
    exact bodyPost_ret (v := .tuple #[(.agg #[.int .i64 1, .int .i64 0, .int .i64 1, .int .i64 1]), .bool true]) (by simp [results, Tryd.results59, go_sem]) rfl ⟨rfl, by repeat (first | with_reducible exact own_refl _ | with_reducible assumption | with_reducible apply own_alloc | with_reducible apply own_drewN | with_reducible apply own_drew | ((with_reducible refine own_setCell ?_ ?_ _); rotate_left; focus (first | (simp; done) | (simp; omega))) | (with_reducible (refine own_trans ?_ (by assumption))))⟩
  by_cases h5 : c = 108
  · subst h5; rw [wordM_l]; show Calls Tryd.prog 59 #[.int .u8 108] w _
    go_enter Tryd.func59, Tryd.ntmps59
    go_wp2
    exact bodyPost_ret (v := .tuple #[(.agg #[.int .i64 1, .int .i64 0, .int .i64 (-1), .int .i64 1]), .bool true]) (by simp [results, Tryd.results59, go_sem]) rfl ⟨rfl, by repeat (first | with_reducible exact own_refl _ | with_reducible assumption | with_reducible apply own_alloc | with_reducible apply own_drewN | with_reducible apply own_drew | ((with_reducible refine own_setCell ?_ ?_ _); rotate_left; focus (first | (simp; done) | (simp; omega))) | (with_reducible (refine own_trans ?_ (by assumption))))⟩
  rw [wordM_no h1 h2 h3 h4 h5]
  have e1 : ((c.toNat : Int) == 83) = false := byte_ne h1
  have e2 : ((c.toNat : Int) == 84) = false := byte_ne h2
  have e3 : ((c.toNat : Int) == 116) = false := byte_ne h3
  have e4 : ((c.toNat : Int) == 76) = false := byte_ne h4
  have e5 : ((c.toNat : Int) == 108) = false := byte_ne h5
  generalize (c.toNat : Int) = x at e1 e2 e3 e4 e5 ⊢
  clear h1 h2 h3 h4 h5
  go_enter Tryd.func59, Tryd.ntmps59
  go_wp2
  exact bodyPost_ret (v := .tuple #[(.agg #[.int .i64 0, .int .i64 0, .int .i64 0, .int .i64 0]), .bool false]) (by simp [results, Tryd.results59, go_sem]) rfl ⟨rfl, by repeat (first | with_reducible exact own_refl _ | with_reducible assumption | with_reducible apply own_alloc | with_reducible apply own_drewN | with_reducible apply own_drew | ((with_reducible refine own_setCell ?_ ?_ _); rotate_left; focus (first | (simp; done) | (simp; omega))) | (with_reducible (refine own_trans ?_ (by assumption))))⟩
theorem letter_yes (c : UInt8) (m : Mat) (x : Int) (hx : (c.toNat : Int) = x) (h : wordM c = some m) (w : World) :
    Calls Tryd.prog 59 #[.int .u8 x] w fun e w' => e = .returned (.tuple #[(.agg #[.int .i64 m.a, .int .i64 m.b, .int .i64 m.c, .int .i64 m.d]), .bool true]) ∧ Below w.heap.size w w' := by
  have := l02Letter_any c w
  rw [h, hx] at this
  exact this
theorem letter_no (c : UInt8) (x : Int) (hx : (c.toNat : Int) = x) (h : wordM c = none) (w : World) :
    Calls Tryd.prog 59 #[.int .u8 x] w fun e w' => e = .returned (.tuple #[(.agg #[.int .i64 0, .int .i64 0, .int .i64 0, .int .i64 0]), .bool false]) ∧ Below w.heap.size w w' := by
  have := l02Letter_any c w
  rw [h, hx] at this
  exact this
/-- The byte at k, as the walk sees it. -/
theorem idx_at (s : ByteArray) (k : Nat) (hk : k < s.size) : ∃ x : Int, (∀ w, (Instr.index 9 (.string s) (.int .i64 (k : Int))).run Tryd.prog w = .ok (.int .u8 x) w) ∧ Hid ((s[k].toNat : Int) = x) :=
  ⟨_, idx_str s k hk, Lib.hid rfl⟩
set_option maxHeartbeats 2000000 in
theorem specMow_long (s : ByteArray) (hn : ¬ s.size ≤ 200) (hn' : s.size ≤ 9223372036854775807) (w : World) : Calls Tryd.prog 31 #[.string s] w (RetM Mat.zero 2 w) := by
  have hn1 : (200 : Int) < (s.size : Int) := by omega
  go_enter Tryd.func31, Tryd.ntmps31
  go_wp2
  exact bodyPost_ret (v := .tuple #[(.agg #[.int .i64 0, .int .i64 0, .int .i64 0, .int .i64 0]), (.int .i64 2)]) (by simp [results, Tryd.results31, go_sem]) rfl ⟨rfl, by repeat (first | with_reducible exact own_refl _ | with_reducible assumption | with_reducible apply own_alloc | with_reducible apply own_drewN | with_reducible apply own_drew | ((with_reducible refine own_setCell ?_ ?_ _); rotate_left; focus (first | (simp; done) | (simp; omega))) | (with_reducible (refine own_trans ?_ (by assumption))))⟩
set_option maxRecDepth 100000 in
set_option maxHeartbeats 4000000 in
theorem specMow_no (s : ByteArray) (hn : s.size ≤ 200) (ho : spell (ltA esWord) s.data.toList = none) (w : World) : Calls Tryd.prog 31 #[.string s] w (RetM Mat.zero 2 w) := by
  have HO := Lib.hid ho
  have hn1 : ¬ (200 : Int) < (s.size : Int) := by omega
  clear ho
  go_enter Tryd.func31, Tryd.ntmps31
  go_wp2
  go_loopw [4] (fun i wr => ∃ k : Nat, k ≤ s.size ∧ i = (.int .i64 k) ∧ Hid (∃ ms, spell (ltA esWord) (s.data.toList.take k) = some ms) ∧ Below w.heap.size w wr ∧ Box wr w.heap.size [.int .i64 0, .int .i64 0, .int .i64 0, .int .i64 0]) (fun i _ => s.size - (intOf i).toNat)
  case atStart => exact ⟨0, Nat.zero_le _, rfl, Lib.hid ⟨[], rfl⟩, by repeat (first | with_reducible exact own_refl _ | with_reducible assumption | with_reducible apply own_alloc | with_reducible apply own_drewN | with_reducible apply own_drew | ((with_reducible refine own_setCell ?_ ?_ _); rotate_left; focus (first | (simp; done) | (simp; omega))) | (with_reducible (refine own_trans ?_ (by assumption)))), Box.new _ _ _⟩
  case round =>
    obtain ⟨k, hk, rfl, HM, T, hR⟩ := hrel
    by_cases hlt : k < s.size
    · obtain ⟨x, hix, HX⟩ := idx_at s k hlt
      obtain ⟨_, _, _, _, _, _, _, _, _⟩ := hR.four
      rcases hf : wordM s[k] with _ | m
      · have HC := Lib.hid (letter_no s[k] x HX.out hf)
        clear hf HX
        go_wp2_with fail
        refine (HC.out _).mono ?_
        rintro e w1 ⟨rfl, hb1⟩
        have R1 := hR.below hb1
        obtain ⟨_, _, _, _, _, _, _, _, _⟩ := R1.four
        go_wp2
        obtain ⟨_, c0, c1, c2, c3, _, _, _, _⟩ := ((R1.put4 (.int .i64 0) (.int .i64 0) (.int .i64 0) (.int .i64 0)).alloc (.cells #[.int .i64 0, .int .i64 0, .int .i64 0, .int .i64 0] 35)).four
        exact bodyPost_ret (v := .tuple #[(.agg #[.int .i64 0, .int .i64 0, .int .i64 0, .int .i64 0]), (.int .i64 2)]) (by simp [results, Tryd.results31, go_sem, c0, c1, c2, c3]) rfl ⟨rfl, by repeat (first | with_reducible exact own_refl _ | with_reducible assumption | with_reducible apply own_alloc | with_reducible apply own_drewN | with_reducible apply own_drew | ((with_reducible refine own_setCell ?_ ?_ _); rotate_left; focus (first | (simp; done) | (simp; omega))) | (with_reducible (refine own_trans ?_ (by assumption))))⟩
      · have HC := Lib.hid (letter_yes s[k] m x HX.out hf)
        have HS : Hid (∃ ms, spell (ltA esWord) (s.data.toList.take (k + 1)) = some ms) := Lib.hid (by
          obtain ⟨ms, h⟩ := HM.out
          exact ⟨_, spell_step _ s k hlt ms m h hf⟩)
        clear hf HX
        go_wp2_with fail
        refine (HC.out _).mono ?_
        rintro e w1 ⟨rfl, hb1⟩
        have R1 := hR.below hb1
        go_wp2
        go_roundw
        case rel => exact ⟨k + 1, by omega, by go_num, HS, by repeat (first | with_reducible exact own_refl _ | with_reducible assumption | with_reducible apply own_alloc | with_reducible apply own_drewN | with_reducible apply own_drew | ((with_reducible refine own_setCell ?_ ?_ _); rotate_left; focus (first | (simp; done) | (simp; omega))) | (with_reducible (refine own_trans ?_ (by assumption)))), R1.alloc _⟩
        case measure => simp [intOf]; omega
    · exfalso
      obtain ⟨ms, h⟩ := HM.out
      have := spell_all _ s k (by omega) ms h
      rw [HO.out] at this
      cases this
set_option maxRecDepth 100000 in
set_option maxHeartbeats 4000000 in
theorem specMow_yes (s : ByteArray) (hn : s.size ≤ 200) (ms : List Mat) (ho : spell (ltA esWord) s.data.toList = some ms) (r : Mat) (kd : Int) (hPA : PA ms r kd) (w : World) : Calls Tryd.prog 31 #[.string s] w (RetM r kd w) := by
  have HO := Lib.hid ho
  have HP := Lib.hid hPA
  have HALL := Lib.hid (spell_is (fun c m h => wordM_is h) _ ms ho)
  have HLN := Lib.hid ((spell_len _ _ _ ho).trans (str_len s))
  have hn1 : ¬ (200 : Int) < (s.size : Int) := by omega
  clear ho hPA
  go_enter Tryd.func31, Tryd.ntmps31
  go_wp2
  go_loopw [4] (fun i wr => ∃ k : Nat, k ≤ s.size ∧ i = (.int .i64 k) ∧ Below w.heap.size w wr ∧ Box wr w.heap.size [.int .i64 0, .int .i64 0, .int .i64 0, .int .i64 0]) (fun i _ => s.size - (intOf i).toNat)
  case atStart => exact ⟨0, Nat.zero_le _, rfl, by repeat (first | with_reducible exact own_refl _ | with_reducible assumption | with_reducible apply own_alloc | with_reducible apply own_drewN | with_reducible apply own_drew | ((with_reducible refine own_setCell ?_ ?_ _); rotate_left; focus (first | (simp; done) | (simp; omega))) | (with_reducible (refine own_trans ?_ (by assumption)))), Box.new _ _ _⟩
  case round =>
    obtain ⟨k, hk, rfl, T, hR⟩ := hrel
    by_cases hlt : k < s.size
    · obtain ⟨x, hix, HX⟩ := idx_at s k hlt
      obtain ⟨hk2, hf⟩ := spell_at _ s ms HO.out k hlt
      obtain ⟨m, hm⟩ : ∃ m, ms[k] = m := ⟨_, rfl⟩
      rw [hm] at hf
      have HC := Lib.hid (letter_yes s[k] m x HX.out hf)
      clear hf HX hm hk2
      go_wp2_with fail
      refine (HC.out _).mono ?_
      rintro e w1 ⟨rfl, hb1⟩
      have R1 := hR.below hb1
      go_wp2
      go_roundw
      case rel => exact ⟨k + 1, by omega, by go_num, by repeat (first | with_reducible exact own_refl _ | with_reducible assumption | with_reducible apply own_alloc | with_reducible apply own_drewN | with_reducible apply own_drew | ((with_reducible refine own_setCell ?_ ?_ _); rotate_left; focus (first | (simp; done) | (simp; omega))) | (with_reducible (refine own_trans ?_ (by assumption)))), R1.alloc _⟩
      case measure => simp [intOf]; omega
    · go_wp2_with fail
      refine (l02Unit_any _).mono ?_
      rintro e w1 ⟨rfl, hb1⟩
      have hT1 : Below w.heap.size w w1 := by repeat (first | with_reducible exact own_refl _ | with_reducible assumption | with_reducible apply own_alloc | with_reducible apply own_drewN | with_reducible apply own_drew | ((with_reducible refine own_setCell ?_ ?_ _); rotate_left; focus (first | (simp; done) | (simp; omega))) | (with_reducible (refine own_trans ?_ (by assumption))))
      have hR1 : Box w1 w.heap.size [.int .i64 0, .int .i64 0, .int .i64 0, .int .i64 0] := Box.below hR hb1
      have hz1 := hR1.1
      have hne1 : ¬ (w1.heap.size = w.heap.size) := by omega
      go_wp2
      go_loopw [8, 9] (fun f i wr => ∃ (k : Nat) (p : Mat) (rr : Bool), k ≤ s.size ∧ i = (.int .i64 k) ∧ f = .bool rr ∧ Hid (Sofar ms k p rr) ∧ Below w.heap.size w wr ∧ Box wr w.heap.size [.int .i64 0, .int .i64 0, .int .i64 0, .int .i64 0] ∧ Box wr w1.heap.size p.cells) (fun _ i _ => s.size - (intOf i).toNat)
      case atStart => exact ⟨0, Mat.one, true, Nat.zero_le _, rfl, rfl, Lib.hid (.inl ⟨rfl, by decide, rfl⟩), own_alloc hT1 _, hR1.alloc _, Box.new _ _ _⟩
      case round =>
        obtain ⟨k, p, rr, hk, rfl, rfl, HSo, T, hR, hP⟩ := hrel
        by_cases hlt2 : k < s.size
        · cases rr
          · have HE := Lib.hid (HSo.out.end_no HP.out HALL.out)
            obtain ⟨_, _, _, _, _, _, _, _, _⟩ := hR.four
            go_wp2
            obtain ⟨d0, d1, d2, d3⟩ := hR.reads4' (.int .i64 0) (.int .i64 0) (.int .i64 0) (.int .i64 0)
            refine bodyPost_ret (v := .tuple #[(.agg #[.int .i64 0, .int .i64 0, .int .i64 0, .int .i64 0]), (.int .i64 3)]) (by simp [results, Tryd.results31, go_sem, d0, d1, d2, d3]) rfl ⟨?_, by repeat (first | with_reducible exact own_refl _ | with_reducible assumption | with_reducible apply own_alloc | with_reducible apply own_drewN | with_reducible apply own_drew | ((with_reducible refine own_setCell ?_ ?_ _); rotate_left; focus (first | (simp; done) | (simp; omega))) | (with_reducible (refine own_trans ?_ (by assumption))))⟩
            rw [HE.out.1, HE.out.2]
            rfl
          · obtain ⟨x, hix, HX⟩ := idx_at s k hlt2
            obtain ⟨hk2, hf⟩ := spell_at _ s ms HO.out k hlt2
            have hEn := Mat.is_ent (all_get HALL.out k hk2)
            obtain ⟨m, hm⟩ : ∃ m, ms[k] = m := ⟨_, rfl⟩
            rw [hm] at hf hEn
            have HC := Lib.hid (letter_yes s[k] m x HX.out hf)
            have HEN := Lib.hid hEn
            obtain ⟨q, r2, HT⟩ := TM.any p m
            have HNX := Lib.hid (HSo.out.step hk2 hm HT)
            have HTM := Lib.hid HT
            have hgt := hP.1
            clear hf HX hm hEn HT hk2
            go_wp2_with fail
            refine (HC.out _).mono ?_
            rintro e w2 ⟨rfl, hb2⟩
            have T2 := own_trans T hb2
            have P2 := hP.below hb2
            have R2 := hR.below hb2
            obtain ⟨_, _, _, _, _, _, _, _, _⟩ := P2.four
            go_wp2_with fail
            refine (times_lit p q m.a m.b m.c m.d r2 HSo.out.ok HEN.out.1 HEN.out.2.1 HEN.out.2.2.1 HEN.out.2.2.2.1 HTM.out _).mono ?_
            rintro e w3 ⟨rfl, hb3⟩
            have P3 := (P2.alloc _).below hb3
            have R3 := (R2.alloc _).below hb3
            obtain ⟨_, _, _, _, _, _, _, _, _⟩ := P3.four
            go_wp2
            go_roundw
            case rel => exact ⟨k + 1, q, r2, by omega, by go_num, rfl, HNX, by repeat (first | with_reducible exact own_refl _ | with_reducible assumption | with_reducible apply own_alloc | with_reducible apply own_drewN | with_reducible apply own_drew | ((with_reducible refine own_setCell ?_ ?_ _); rotate_left; focus (first | (simp; done) | (simp; omega))) | (with_reducible (refine own_trans ?_ (by assumption)))), (((R3.far (Ne.symm hne1) _).far (Ne.symm hne1) _).far (Ne.symm hne1) _).far (Ne.symm hne1) _, P3.put4 _ _ _ _⟩
            case measure => simp [intOf]; omega
        · have hke : ms.length = k := by have := HLN.out; omega
          obtain ⟨_, _, _, _, _, _, _, _, _⟩ := hR.four
          cases rr
          · have HE := Lib.hid (HSo.out.end_no HP.out HALL.out)
            go_wp2
            obtain ⟨d0, d1, d2, d3⟩ := hR.reads4' (.int .i64 0) (.int .i64 0) (.int .i64 0) (.int .i64 0)
            refine bodyPost_ret (v := .tuple #[(.agg #[.int .i64 0, .int .i64 0, .int .i64 0, .int .i64 0]), (.int .i64 3)]) (by simp [results, Tryd.results31, go_sem, d0, d1, d2, d3]) rfl ⟨?_, by repeat (first | with_reducible exact own_refl _ | with_reducible assumption | with_reducible apply own_alloc | with_reducible apply own_drewN | with_reducible apply own_drew | ((with_reducible refine own_setCell ?_ ?_ _); rotate_left; focus (first | (simp; done) | (simp; omega))) | (with_reducible (refine own_trans ?_ (by assumption))))⟩
            rw [HE.out.1, HE.out.2]
            rfl
          · have HE := Lib.hid (Sofar.end_yes (by rw [hke]; exact HSo.out) HP.out HALL.out)
            obtain ⟨_, _, _, _, _, _, _, _, _⟩ := hP.four
            clear hke
            go_wp2
            obtain ⟨d0, d1, d2, d3⟩ := hR.reads4' (.int .i64 p.a) (.int .i64 p.b) (.int .i64 p.c) (.int .i64 p.d)
            refine bodyPost_ret (v := .tuple #[(.agg #[.int .i64 p.a, .int .i64 p.b, .int .i64 p.c, .int .i64 p.d]), (.int .i64 0)]) (by simp [results, Tryd.results31, go_sem, d0, d1, d2, d3]) rfl ⟨?_, by repeat (first | with_reducible exact own_refl _ | with_reducible assumption | with_reducible apply own_alloc | with_reducible apply own_drewN | with_reducible apply own_drew | ((with_reducible refine own_setCell ?_ ?_ _); rotate_left; focus (first | (simp; done) | (simp; omega))) | (with_reducible (refine own_trans ?_ (by assumption))))⟩
            rw [HE.out.1, HE.out.2]
end Go.Proofs.YtkeadknbdihkmaaDoor
