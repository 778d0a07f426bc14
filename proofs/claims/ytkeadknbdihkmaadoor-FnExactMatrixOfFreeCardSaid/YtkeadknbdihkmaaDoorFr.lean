/- MatrixOfFree: contracts of both sides. -/
import Derived.Test.YtkeadknbdihkmaaDoorFree
import Derived.Test.YtkeadknbdihkmaaDoorAlt
import Derived.Test.YtkeadknbdihkmaaDoorMorS
namespace Go.Proofs.YtkeadknbdihkmaaDoor
open Go.ChangeShapes Go.WideShapes Go.ChangeAt Go.RowKit

noncomputable def freeM (c : UInt8) : Option Mat := ltA esFree (byteK c)
theorem freeM_S : freeM 83 = some ⟨0, -1, 1, 0⟩ := by simp [freeM, ltA, esFree]
theorem freeM_U : freeM 85 = some ⟨1, -1, 1, 0⟩ := by simp [freeM, ltA, esFree, byteK_eq]
theorem freeM_V : freeM 86 = some ⟨0, -1, 1, -1⟩ := by simp [freeM, ltA, esFree, byteK_eq]
theorem freeM_no {c : UInt8} (h1 : c ≠ 83) (h2 : c ≠ 85) (h3 : c ≠ 86) : freeM c = none := by simp [freeM, ltA, esFree, byteK_eq, h1, h2, h3]
theorem freeM_cases {c : UInt8} {m : Mat} (h : freeM c = some m) : (c = 83 ∧ m = ⟨0, -1, 1, 0⟩) ∨ (c = 85 ∧ m = ⟨1, -1, 1, 0⟩) ∨ (c = 86 ∧ m = ⟨0, -1, 1, -1⟩) := by
  by_cases h1 : c = 83
  · subst h1; rw [freeM_S] at h; cases h; exact .inl ⟨rfl, rfl⟩
  by_cases h2 : c = 85
  · subst h2; rw [freeM_U] at h; cases h; exact .inr (.inl ⟨rfl, rfl⟩)
  by_cases h3 : c = 86
  · subst h3; rw [freeM_V] at h; cases h; exact .inr (.inr ⟨rfl, rfl⟩)
  rw [freeM_no h1 h2 h3] at h; cases h
theorem freeM_is {c : UInt8} {m : Mat} (h : freeM c = some m) : m.is = true := by
  rcases freeM_cases h with ⟨_, rfl⟩ | ⟨_, rfl⟩ | ⟨_, rfl⟩ <;> decide
theorem spell_isF {f : Lit → Option Mat} (hf : ∀ c m, f (byteK c) = some m → m.is = true) (bs : List UInt8) : ∀ ms, spell f bs = some ms → ms.all Mat.is = true := by
  induction bs with
  | nil => intro ms h; simp only [spell, Option.some.injEq] at h; subst h; rfl
  | cons d r ih =>
    intro ms h
    simp only [spell] at h
    rcases e1 : f (byteK d) with _ | x
    · rw [e1] at h; simp at h
    · rcases e2 : spell f r with _ | y
      · rw [e1, e2] at h; simp at h
      · rw [e1, e2] at h
        simp only [Option.some.injEq] at h
        subst h
        rw [List.all_cons, hf d x e1, ih y e2]
        rfl
theorem AltTo.stepS {s : ByteArray} {k : Nat} (h : AltTo s k) (hb : k = 0 ∨ (bS s k == bS s (k - 1)) = false) : AltTo s (k + 1) := by
  rcases hb with rfl | hb
  · exact AltTo.one s
  · intro j hj
    by_cases e : j + 1 = k
    · subst e
      rw [BEq.comm]
      exact hb
    · exact h j (by omega)
theorem altOk_noS {s : ByteArray} {k : Nat} (h0 : 0 < k) (hk : k < s.size) (h : (bS s k == bS s (k - 1)) = true) : altOk s = false := by
  obtain ⟨j, rfl⟩ : ∃ j, k = j + 1 := ⟨k - 1, by omega⟩
  exact altOk_no hk (by rw [BEq.comm]; exact h)
theorem altOk_at {s : ByteArray} {k : Nat} (ha : altOk s = true) (h0 : 0 < k) (hk : k < s.size) : (bS s k == bS s (k - 1)) = false := by
  rcases h : (bS s k == bS s (k - 1)) with _ | _
  · rfl
  · rw [altOk_noS h0 hk h] at ha; cases ha
theorem bS_of {s : ByteArray} {k : Nat} (hk : k < s.size) {c : UInt8} (hc : s[k] = c) : bS s k = (c == 83) := by rw [bS_lit s k hk, hc]
theorem idx_pre (s : ByteArray) (k : Nat) (h0 : 0 < k) (hk : k < s.size) : ∃ x : Int, (∀ w, (Instr.index 9 (.string s) (.int .i64 ((k : Int) - 1))).run Tryd.prog w = .ok (.int .u8 x) w) ∧ (x == 83) = bS s (k - 1) := by
  obtain ⟨x, h1, h2, _⟩ := idx_b s (k - 1) (by omega)
  refine ⟨x, ?_, h2⟩
  rw [show (k : Int) - 1 = ((k - 1 : Nat) : Int) by omega]
  exact h1
set_option maxHeartbeats 2000000 in
theorem specFr_long (s : ByteArray) (hn : ¬ s.size ≤ 200) (hn' : s.size ≤ 9223372036854775807) (w : World) : Calls Tryd.prog 33 #[.string s] w (RetM Mat.zero 2 w) := by
  have hn1 : (200 : Int) < (s.size : Int) := by omega
  go_enter Tryd.func33, Tryd.ntmps33
  go_wp2
  exact bodyPost_ret (v := .tuple #[(.agg #[.int .i64 0, .int .i64 0, .int .i64 0, .int .i64 0]), (.int .i64 2)]) (by simp [results, Tryd.results33, go_sem]) rfl ⟨rfl, by repeat (first | with_reducible exact own_refl _ | with_reducible assumption | with_reducible apply own_alloc | with_reducible apply own_drewN | with_reducible apply own_drew | ((with_reducible refine own_setCell ?_ ?_ _); rotate_left; focus (first | (simp; done) | (simp; omega))) | (with_reducible (refine own_trans ?_ (by assumption))))⟩
set_option maxRecDepth 100000 in
set_option maxHeartbeats 8000000 in
theorem specFr_no (s : ByteArray) (hn : s.size ≤ 200) (ho : altOk s = false ∨ spell (ltA esFree) s.data.toList = none) (w : World) : Calls Tryd.prog 33 #[.string s] w (RetM Mat.zero 2 w) := by
  have HO := Lib.hid ho
  have hn1 : ¬ (200 : Int) < (s.size : Int) := by omega
  clear ho
  go_enter Tryd.func33, Tryd.ntmps33
  go_wp2
  go_loopw [4] (fun i wr => ∃ k : Nat, k ≤ s.size ∧ i = (.int .i64 k) ∧ Hid (AltTo s k ∧ ∃ ms, spell (ltA esFree) (s.data.toList.take k) = some ms) ∧ Below w.heap.size w wr ∧ Box wr w.heap.size [.int .i64 0, .int .i64 0, .int .i64 0, .int .i64 0]) (fun i _ => s.size - (intOf i).toNat)
  case atStart => exact ⟨0, Nat.zero_le _, rfl, Lib.hid ⟨fun j hj => by omega, [], rfl⟩, by repeat (first | with_reducible exact own_refl _ | with_reducible assumption | with_reducible apply own_alloc | with_reducible apply own_drewN | with_reducible apply own_drew | ((with_reducible refine own_setCell ?_ ?_ _); rotate_left; focus (first | (simp; done) | (simp; omega))) | (with_reducible (refine own_trans ?_ (by assumption)))), Box.new _ _ _⟩
  case round =>
    obtain ⟨k, hk, rfl, HM, T, hR⟩ := hrel
    by_cases hlt : k < s.size
    · rcases hf : freeM s[k] with _ | m
      · obtain ⟨x, hix, hxx⟩ := idx_any s k hlt
        have c1 : s[k] ≠ 83 := fun q => by rw [q, freeM_S] at hf; cases hf
        have c2 : s[k] ≠ 85 := fun q => by rw [q, freeM_U] at hf; cases hf
        have c3 : s[k] ≠ 86 := fun q => by rw [q, freeM_V] at hf; cases hf
        have e1 : (x == 83) = false := hxx.out 83 c1
        have e2 : (x == 85) = false := hxx.out 85 c2
        have e3 : (x == 86) = false := hxx.out 86 c3
        have f1 : (x != 83) = true := by simp [bne, e1]
        have f2 : (x != 85) = true := by simp [bne, e2]
        have f3 : (x != 86) = true := by simp [bne, e3]
        clear c1 c2 c3 hf hxx
        go_upto_region 6 with fail
        go_quiet (fail)
        obtain ⟨_, _, _, _, _, _, _, _, _⟩ := hR.four
        go_wp2
        obtain ⟨d0, d1, d2, d3⟩ := (Box.drewN hR nq).reads4' (.int .i64 0) (.int .i64 0) (.int .i64 0) (.int .i64 0)
        exact bodyPost_ret (v := .tuple #[(.agg #[.int .i64 0, .int .i64 0, .int .i64 0, .int .i64 0]), (.int .i64 2)]) (by simp [results, Tryd.results33, go_sem, d0, d1, d2, d3]) rfl ⟨rfl, by repeat (first | with_reducible exact own_refl _ | with_reducible assumption | with_reducible apply own_alloc | with_reducible apply own_drewN | with_reducible apply own_drew | ((with_reducible refine own_setCell ?_ ?_ _); rotate_left; focus (first | (simp; done) | (simp; omega))) | (with_reducible (refine own_trans ?_ (by assumption))))⟩
      · have HS : Hid (∃ ms, spell (ltA esFree) (s.data.toList.take (k + 1)) = some ms) := Lib.hid (by
          obtain ⟨_, ms, h⟩ := HM.out
          exact ⟨_, spell_step _ s k hlt ms m h hf⟩)
        have HQ := Lib.hid (fun h => AltTo.stepS HM.out.1 h)
        rcases freeM_cases hf with ⟨hc, hm⟩ | ⟨hc, hm⟩ | ⟨hc, hm⟩
        · have hix : ∀ w, (Instr.index 9 (.string s) (.int .i64 (k : Int))).run Tryd.prog w = .ok (.int .u8 83) w := idx_lit s k 83 hlt hc
          have hb : bS s k = true := by rw [bS_of hlt hc]; decide
          rw [hb] at HQ
          clear hc hm hf hb
          by_cases h0 : k = 0
          · have HN := Lib.hid (⟨HQ.out (.inl h0), HS.out⟩ : AltTo s (k + 1) ∧ ∃ ms, spell (ltA esFree) (s.data.toList.take (k + 1)) = some ms)
            have hk0 : decide (0 < k) = false := decide_eq_false (by omega)
            clear h0
            go_upto_region 6 with fail
            go_quiet (fail)
            go_wp2
            go_roundw
            case rel => exact ⟨k + 1, by omega, by go_num, HN, own_drewN T _, Box.drewN hR _⟩
            case measure => simp [intOf]; omega
          · obtain ⟨x0, hix0, e0⟩ := idx_pre s k (by omega) hlt
            have hk0 : decide (0 < k) = true := decide_eq_true (by omega)
            rcases hb0 : bS s (k - 1) with _ | _
            · rw [hb0] at e0 HQ
              clear hb0 h0
              have HN := Lib.hid (⟨HQ.out (.inr rfl), HS.out⟩ : AltTo s (k + 1) ∧ ∃ ms, spell (ltA esFree) (s.data.toList.take (k + 1)) = some ms)
              go_upto_region 6 with fail
              go_quiet (fail)
              go_wp2
              go_roundw
              case rel => exact ⟨k + 1, by omega, by go_num, HN, own_drewN T _, Box.drewN hR _⟩
              case measure => simp [intOf]; omega
            · rw [hb0] at e0 HQ
              clear hb0 h0
              go_upto_region 6 with fail
              go_quiet (fail)
              obtain ⟨_, _, _, _, _, _, _, _, _⟩ := hR.four
              go_wp2
              obtain ⟨d0, d1, d2, d3⟩ := (Box.drewN hR nq).reads4' (.int .i64 0) (.int .i64 0) (.int .i64 0) (.int .i64 0)
              exact bodyPost_ret (v := .tuple #[(.agg #[.int .i64 0, .int .i64 0, .int .i64 0, .int .i64 0]), (.int .i64 2)]) (by simp [results, Tryd.results33, go_sem, d0, d1, d2, d3]) rfl ⟨rfl, by repeat (first | with_reducible exact own_refl _ | with_reducible assumption | with_reducible apply own_alloc | with_reducible apply own_drewN | with_reducible apply own_drew | ((with_reducible refine own_setCell ?_ ?_ _); rotate_left; focus (first | (simp; done) | (simp; omega))) | (with_reducible (refine own_trans ?_ (by assumption))))⟩
        · have hix : ∀ w, (Instr.index 9 (.string s) (.int .i64 (k : Int))).run Tryd.prog w = .ok (.int .u8 85) w := idx_lit s k 85 hlt hc
          have hb : bS s k = false := by rw [bS_of hlt hc]; decide
          rw [hb] at HQ
          clear hc hm hf hb
          by_cases h0 : k = 0
          · have HN := Lib.hid (⟨HQ.out (.inl h0), HS.out⟩ : AltTo s (k + 1) ∧ ∃ ms, spell (ltA esFree) (s.data.toList.take (k + 1)) = some ms)
            have hk0 : decide (0 < k) = false := decide_eq_false (by omega)
            clear h0
            go_upto_region 6 with fail
            go_quiet (fail)
            go_wp2
            go_roundw
            case rel => exact ⟨k + 1, by omega, by go_num, HN, own_drewN T _, Box.drewN hR _⟩
            case measure => simp [intOf]; omega
          · obtain ⟨x0, hix0, e0⟩ := idx_pre s k (by omega) hlt
            have hk0 : decide (0 < k) = true := decide_eq_true (by omega)
            rcases hb0 : bS s (k - 1) with _ | _
            · rw [hb0] at e0 HQ
              clear hb0 h0
              go_upto_region 6 with fail
              go_quiet (fail)
              obtain ⟨_, _, _, _, _, _, _, _, _⟩ := hR.four
              go_wp2
              obtain ⟨d0, d1, d2, d3⟩ := (Box.drewN hR nq).reads4' (.int .i64 0) (.int .i64 0) (.int .i64 0) (.int .i64 0)
              exact bodyPost_ret (v := .tuple #[(.agg #[.int .i64 0, .int .i64 0, .int .i64 0, .int .i64 0]), (.int .i64 2)]) (by simp [results, Tryd.results33, go_sem, d0, d1, d2, d3]) rfl ⟨rfl, by repeat (first | with_reducible exact own_refl _ | with_reducible assumption | with_reducible apply own_alloc | with_reducible apply own_drewN | with_reducible apply own_drew | ((with_reducible refine own_setCell ?_ ?_ _); rotate_left; focus (first | (simp; done) | (simp; omega))) | (with_reducible (refine own_trans ?_ (by assumption))))⟩
            · rw [hb0] at e0 HQ
              clear hb0 h0
              have HN := Lib.hid (⟨HQ.out (.inr rfl), HS.out⟩ : AltTo s (k + 1) ∧ ∃ ms, spell (ltA esFree) (s.data.toList.take (k + 1)) = some ms)
              go_upto_region 6 with fail
              go_quiet (fail)
              go_wp2
              go_roundw
              case rel => exact ⟨k + 1, by omega, by go_num, HN, own_drewN T _, Box.drewN hR _⟩
              case measure => simp [intOf]; omega
        · have hix : ∀ w, (Instr.index 9 (.string s) (.int .i64 (k : Int))).run Tryd.prog w = .ok (.int .u8 86) w := idx_lit s k 86 hlt hc
          have hb : bS s k = false := by rw [bS_of hlt hc]; decide
          rw [hb] at HQ
          clear hc hm hf hb
          by_cases h0 : k = 0
          · have HN := Lib.hid (⟨HQ.out (.inl h0), HS.out⟩ : AltTo s (k + 1) ∧ ∃ ms, spell (ltA esFree) (s.data.toList.take (k + 1)) = some ms)
            have hk0 : decide (0 < k) = false := decide_eq_false (by omega)
            clear h0
            go_upto_region 6 with fail
            go_quiet (fail)
            go_wp2
            go_roundw
            case rel => exact ⟨k + 1, by omega, by go_num, HN, own_drewN T _, Box.drewN hR _⟩
            case measure => simp [intOf]; omega
          · obtain ⟨x0, hix0, e0⟩ := idx_pre s k (by omega) hlt
            have hk0 : decide (0 < k) = true := decide_eq_true (by omega)
            rcases hb0 : bS s (k - 1) with _ | _
            · rw [hb0] at e0 HQ
              clear hb0 h0
              go_upto_region 6 with fail
              go_quiet (fail)
              obtain ⟨_, _, _, _, _, _, _, _, _⟩ := hR.four
              go_wp2
              obtain ⟨d0, d1, d2, d3⟩ := (Box.drewN hR nq).reads4' (.int .i64 0) (.int .i64 0) (.int .i64 0) (.int .i64 0)
              exact bodyPost_ret (v := .tuple #[(.agg #[.int .i64 0, .int .i64 0, .int .i64 0, .int .i64 0]), (.int .i64 2)]) (by simp [results, Tryd.results33, go_sem, d0, d1, d2, d3]) rfl ⟨rfl, by repeat (first | with_reducible exact own_refl _ | with_reducible assumption | with_reducible apply own_alloc | with_reducible apply own_drewN | with_reducible apply own_drew | ((with_reducible refine own_setCell ?_ ?_ _); rotate_left; focus (first | (simp; done) | (simp; omega))) | (with_reducible (refine own_trans ?_ (by assumption))))⟩
            · rw [hb0] at e0 HQ
              clear hb0 h0
              have HN := Lib.hid (⟨HQ.out (.inr rfl), HS.out⟩ : AltTo s (k + 1) ∧ ∃ ms, spell (ltA esFree) (s.data.toList.take (k + 1)) = some ms)
              go_upto_region 6 with fail
              go_quiet (fail)
              go_wp2
              go_roundw
              case rel => exact ⟨k + 1, by omega, by go_num, HN, own_drewN T _, Box.drewN hR _⟩
              case measure => simp [intOf]; omega
    · exfalso
      obtain ⟨ha, ms, h⟩ := HM.out
      rcases HO.out with q | q
      · rw [altOk_yes (by omega) ha] at q; cases q
      · rw [spell_all _ s k (by omega) ms h] at q; cases q
set_option maxRecDepth 100000 in
set_option maxHeartbeats 8000000 in
theorem specFr_yes (s : ByteArray) (hn : s.size ≤ 200) (ha : altOk s = true) (ms : List Mat) (ho : spell (ltA esFree) s.data.toList = some ms) (r : Mat) (kd : Int) (hPA : PA ms r kd) (w : World) : Calls Tryd.prog 33 #[.string s] w (RetM r kd w) := by
  have HA := Lib.hid ha
  have HO := Lib.hid ho
  have HP := Lib.hid hPA
  have HALL := Lib.hid (spell_isF (fun c m h => freeM_is h) _ ms ho)
  have HLN := Lib.hid ((spell_len _ _ _ ho).trans (str_len s))
  have hn1 : ¬ (200 : Int) < (s.size : Int) := by omega
  clear ho hPA ha
  go_enter Tryd.func33, Tryd.ntmps33
  go_wp2
  go_loopw [4] (fun i wr => ∃ k : Nat, k ≤ s.size ∧ i = (.int .i64 k) ∧ Below w.heap.size w wr ∧ Box wr w.heap.size [.int .i64 0, .int .i64 0, .int .i64 0, .int .i64 0]) (fun i _ => s.size - (intOf i).toNat)
  case atStart => exact ⟨0, Nat.zero_le _, rfl, by repeat (first | with_reducible exact own_refl _ | with_reducible assumption | with_reducible apply own_alloc | with_reducible apply own_drewN | with_reducible apply own_drew | ((with_reducible refine own_setCell ?_ ?_ _); rotate_left; focus (first | (simp; done) | (simp; omega))) | (with_reducible (refine own_trans ?_ (by assumption)))), Box.new _ _ _⟩
  case round =>
    obtain ⟨k, hk, rfl, T, hR⟩ := hrel
    by_cases hlt : k < s.size
    · obtain ⟨hk2, hf⟩ := spell_at _ s ms HO.out k hlt
      rcases freeM_cases hf with ⟨hc, hm⟩ | ⟨hc, hm⟩ | ⟨hc, hm⟩
      · have hix : ∀ w, (Instr.index 9 (.string s) (.int .i64 (k : Int))).run Tryd.prog w = .ok (.int .u8 83) w := idx_lit s k 83 hlt hc
        have hb : bS s k = true := by rw [bS_of hlt hc]; decide
        clear hc hm hf hk2
        by_cases h0 : k = 0
        · have hk0 : decide (0 < k) = false := decide_eq_false (by omega)
          clear h0 hb
          go_upto_region 6 with fail
          go_quiet (fail)
          go_wp2
          go_roundw
          case rel => exact ⟨k + 1, by omega, by go_num, own_drewN T _, Box.drewN hR _⟩
          case measure => simp [intOf]; omega
        · obtain ⟨x0, hix0, e0⟩ := idx_pre s k (by omega) hlt
          have hk0 : decide (0 < k) = true := decide_eq_true (by omega)
          have hal := altOk_at HA.out (by omega) hlt
          have hb0 : bS s (k - 1) = false := by rw [hb] at hal; rcases h : bS s (k - 1) with _ | _ <;> rw [h] at hal <;> first | rfl | cases hal
          rw [hb0] at e0
          clear hal hb hb0 h0
          go_upto_region 6 with fail
          go_quiet (fail)
          go_wp2
          go_roundw
          case rel => exact ⟨k + 1, by omega, by go_num, own_drewN T _, Box.drewN hR _⟩
          case measure => simp [intOf]; omega
      · have hix : ∀ w, (Instr.index 9 (.string s) (.int .i64 (k : Int))).run Tryd.prog w = .ok (.int .u8 85) w := idx_lit s k 85 hlt hc
        have hb : bS s k = false := by rw [bS_of hlt hc]; decide
        clear hc hm hf hk2
        by_cases h0 : k = 0
        · have hk0 : decide (0 < k) = false := decide_eq_false (by omega)
          clear h0 hb
          go_upto_region 6 with fail
          go_quiet (fail)
          go_wp2
          go_roundw
          case rel => exact ⟨k + 1, by omega, by go_num, own_drewN T _, Box.drewN hR _⟩
          case measure => simp [intOf]; omega
        · obtain ⟨x0, hix0, e0⟩ := idx_pre s k (by omega) hlt
          have hk0 : decide (0 < k) = true := decide_eq_true (by omega)
          have hal := altOk_at HA.out (by omega) hlt
          have hb0 : bS s (k - 1) = true := by rw [hb] at hal; rcases h : bS s (k - 1) with _ | _ <;> rw [h] at hal <;> first | rfl | cases hal
          rw [hb0] at e0
          clear hal hb hb0 h0
          go_upto_region 6 with fail
          go_quiet (fail)
          go_wp2
          go_roundw
          case rel => exact ⟨k + 1, by omega, by go_num, own_drewN T _, Box.drewN hR _⟩
          case measure => simp [intOf]; omega
      · have hix : ∀ w, (Instr.index 9 (.string s) (.int .i64 (k : Int))).run Tryd.prog w = .ok (.int .u8 86) w := idx_lit s k 86 hlt hc
        have hb : bS s k = false := by rw [bS_of hlt hc]; decide
        clear hc hm hf hk2
        by_cases h0 : k = 0
        · have hk0 : decide (0 < k) = false := decide_eq_false (by omega)
          clear h0 hb
          go_upto_region 6 with fail
          go_quiet (fail)
          go_wp2
          go_roundw
          case rel => exact ⟨k + 1, by omega, by go_num, own_drewN T _, Box.drewN hR _⟩
          case measure => simp [intOf]; omega
        · obtain ⟨x0, hix0, e0⟩ := idx_pre s k (by omega) hlt
          have hk0 : decide (0 < k) = true := decide_eq_true (by omega)
          have hal := altOk_at HA.out (by omega) hlt
          have hb0 : bS s (k - 1) = true := by rw [hb] at hal; rcases h : bS s (k - 1) with _ | _ <;> rw [h] at hal <;> first | rfl | cases hal
          rw [hb0] at e0
          clear hal hb hb0 h0
          go_upto_region 6 with fail
          go_quiet (fail)
          go_wp2
          go_roundw
          case rel => exact ⟨k + 1, by omega, by go_num, own_drewN T _, Box.drewN hR _⟩
          case measure => simp [intOf]; omega
    · go_wp2_with fail
      refine (l02Unit_any _).mono ?_
      rintro e w1 ⟨rfl, hb1⟩
      have hT1 : Below w.heap.size w w1 := by repeat (first | with_reducible exact own_refl _ | with_reducible assumption | with_reducible apply own_alloc | with_reducible apply own_drewN | with_reducible apply own_drew | ((with_reducible refine own_setCell ?_ ?_ _); rotate_left; focus (first | (simp; done) | (simp; omega))) | (with_reducible (refine own_trans ?_ (by assumption))))
      have hR1 : Box w1 w.heap.size [.int .i64 0, .int .i64 0, .int .i64 0, .int .i64 0] := Box.below hR hb1
      have hz1 := hR1.1
      have hne1 : ¬ (w1.heap.size = w.heap.size) := by omega
      go_wp2
      go_loopw [6, 7] (fun f i wr => ∃ (k : Nat) (p : Mat) (rr : Bool), k ≤ s.size ∧ i = (.int .i64 k) ∧ f = .bool rr ∧ Hid (Sofar ms k p rr) ∧ Below w.heap.size w wr ∧ Box wr w.heap.size [.int .i64 0, .int .i64 0, .int .i64 0, .int .i64 0] ∧ Box wr w1.heap.size p.cells) (fun _ i _ => s.size - (intOf i).toNat)
      case atStart => exact ⟨0, Mat.one, true, Nat.zero_le _, rfl, rfl, Lib.hid (.inl ⟨rfl, by decide, rfl⟩), own_alloc hT1 _, hR1.alloc _, Box.new _ _ _⟩
      case round =>
        obtain ⟨k, p, rr, hk, rfl, rfl, HSo, T, hR, hP⟩ := hrel
        by_cases hlt2 : k < s.size
        · cases rr
          · have HE := Lib.hid (HSo.out.end_no HP.out HALL.out)
            obtain ⟨_, _, _, _, _, _, _, _, _⟩ := hR.four
            go_wp2
            obtain ⟨d0, d1, d2, d3⟩ := hR.reads4' (.int .i64 0) (.int .i64 0) (.int .i64 0) (.int .i64 0)
            refine bodyPost_ret (v := .tuple #[(.agg #[.int .i64 0, .int .i64 0, .int .i64 0, .int .i64 0]), (.int .i64 3)]) (by simp [results, Tryd.results33, go_sem, d0, d1, d2, d3]) rfl ⟨?_, by repeat (first | with_reducible exact own_refl _ | with_reducible assumption | with_reducible apply own_alloc | with_reducible apply own_drewN | with_reducible apply own_drew | ((with_reducible refine own_setCell ?_ ?_ _); rotate_left; focus (first | (simp; done) | (simp; omega))) | (with_reducible (refine own_trans ?_ (by assumption))))⟩
            rw [HE.out.1, HE.out.2]
            rfl
          · obtain ⟨hk2, hf⟩ := spell_at _ s ms HO.out k hlt2
            have hgt := hP.1
            have hgr := hR.1
            obtain ⟨_, _, _, _, _, _, _, _, _⟩ := hP.four
            rcases freeM_cases hf with ⟨hc, hm⟩ | ⟨hc, hm⟩ | ⟨hc, hm⟩
            · have hix : ∀ w, (Instr.index 9 (.string s) (.int .i64 (k : Int))).run Tryd.prog w = .ok (.int .u8 83) w := idx_lit s k 83 hlt2 hc
              obtain ⟨q, r2, HT⟩ := TM.any p ⟨0, -1, 1, 0⟩
              have HNX := Lib.hid (HSo.out.step hk2 hm HT)
              have HTM := Lib.hid HT
              clear hc hm hf hk2 HT
              have B2 : Box (wr.alloc (.cells #[.int .i64 0, .int .i64 (-1), .int .i64 1, .int .i64 0] 35)) wr.heap.size [.int .i64 0, .int .i64 (-1), .int .i64 1, .int .i64 0] := Box.new _ _ _
              have P2 := hP.alloc (.cells #[.int .i64 0, .int .i64 (-1), .int .i64 1, .int .i64 0] 35)
              have R2 := hR.alloc (.cells #[.int .i64 0, .int .i64 (-1), .int .i64 1, .int .i64 0] 35)
              have T2 := own_alloc T (.cells #[.int .i64 0, .int .i64 (-1), .int .i64 1, .int .i64 0] 35)
              go_upto_region 18 with fail
              generalize wr.alloc (.cells #[.int .i64 0, .int .i64 (-1), .int .i64 1, .int .i64 0] 35) = w2 at B2 P2 R2 T2 ⊢
              obtain ⟨_, _, _, _, _, _, _, _, _⟩ := B2.four
              obtain ⟨_, _, _, _, _, _, _, _, _⟩ := P2.four
              go_wp2_with fail
              refine (times_lit p q 0 (-1) 1 0 r2 HSo.out.ok (by unfold Ent; omega) (by unfold Ent; omega) (by unfold Ent; omega) (by unfold Ent; omega) HTM.out _).mono ?_
              rintro e w3 ⟨rfl, hb3⟩
              have P3 := P2.below hb3
              have R3 := R2.below hb3
              obtain ⟨_, _, _, _, _, _, _, _, _⟩ := P3.four
              go_wp2
              go_roundw
              case rel => exact ⟨k + 1, q, r2, by omega, by go_num, rfl, HNX, by repeat (first | with_reducible exact own_refl _ | with_reducible assumption | with_reducible apply own_alloc | with_reducible apply own_drewN | with_reducible apply own_drew | ((with_reducible refine own_setCell ?_ ?_ _); rotate_left; focus (first | (simp; done) | (simp; omega))) | (with_reducible (refine own_trans ?_ (by assumption)))), (((R3.far (Ne.symm hne1) _).far (Ne.symm hne1) _).far (Ne.symm hne1) _).far (Ne.symm hne1) _, P3.put4 _ _ _ _⟩
              case measure => simp [intOf]; omega
            · have hix : ∀ w, (Instr.index 9 (.string s) (.int .i64 (k : Int))).run Tryd.prog w = .ok (.int .u8 85) w := idx_lit s k 85 hlt2 hc
              obtain ⟨q, r2, HT⟩ := TM.any p ⟨1, -1, 1, 0⟩
              have HNX := Lib.hid (HSo.out.step hk2 hm HT)
              have HTM := Lib.hid HT
              clear hc hm hf hk2 HT
              have B2 : Box (wr.alloc (.cells #[.int .i64 1, .int .i64 (-1), .int .i64 1, .int .i64 0] 35)) wr.heap.size [.int .i64 1, .int .i64 (-1), .int .i64 1, .int .i64 0] := Box.new _ _ _
              have P2 := hP.alloc (.cells #[.int .i64 1, .int .i64 (-1), .int .i64 1, .int .i64 0] 35)
              have R2 := hR.alloc (.cells #[.int .i64 1, .int .i64 (-1), .int .i64 1, .int .i64 0] 35)
              have T2 := own_alloc T (.cells #[.int .i64 1, .int .i64 (-1), .int .i64 1, .int .i64 0] 35)
              go_upto_region 18 with fail
              generalize wr.alloc (.cells #[.int .i64 1, .int .i64 (-1), .int .i64 1, .int .i64 0] 35) = w2 at B2 P2 R2 T2 ⊢
              obtain ⟨_, _, _, _, _, _, _, _, _⟩ := B2.four
              obtain ⟨_, _, _, _, _, _, _, _, _⟩ := P2.four
              go_wp2_with fail
              refine (times_lit p q 1 (-1) 1 0 r2 HSo.out.ok (by unfold Ent; omega) (by unfold Ent; omega) (by unfold Ent; omega) (by unfold Ent; omega) HTM.out _).mono ?_
              rintro e w3 ⟨rfl, hb3⟩
              have P3 := P2.below hb3
              have R3 := R2.below hb3
              obtain ⟨_, _, _, _, _, _, _, _, _⟩ := P3.four
              go_wp2
              go_roundw
              case rel => exact ⟨k + 1, q, r2, by omega, by go_num, rfl, HNX, by repeat (first | with_reducible exact own_refl _ | with_reducible assumption | with_reducible apply own_alloc | with_reducible apply own_drewN | with_reducible apply own_drew | ((with_reducible refine own_setCell ?_ ?_ _); rotate_left; focus (first | (simp; done) | (simp; omega))) | (with_reducible (refine own_trans ?_ (by assumption)))), (((R3.far (Ne.symm hne1) _).far (Ne.symm hne1) _).far (Ne.symm hne1) _).far (Ne.symm hne1) _, P3.put4 _ _ _ _⟩
              case measure => simp [intOf]; omega
            · have hix : ∀ w, (Instr.index 9 (.string s) (.int .i64 (k : Int))).run Tryd.prog w = .ok (.int .u8 86) w := idx_lit s k 86 hlt2 hc
              obtain ⟨q, r2, HT⟩ := TM.any p ⟨0, -1, 1, -1⟩
              have HNX := Lib.hid (HSo.out.step hk2 hm HT)
              have HTM := Lib.hid HT
              clear hc hm hf hk2 HT
              have B2 : Box (wr.alloc (.cells #[.int .i64 0, .int .i64 (-1), .int .i64 1, .int .i64 (-1)] 35)) wr.heap.size [.int .i64 0, .int .i64 (-1), .int .i64 1, .int .i64 (-1)] := Box.new _ _ _
              have P2 := hP.alloc (.cells #[.int .i64 0, .int .i64 (-1), .int .i64 1, .int .i64 (-1)] 35)
              have R2 := hR.alloc (.cells #[.int .i64 0, .int .i64 (-1), .int .i64 1, .int .i64 (-1)] 35)
              have T2 := own_alloc T (.cells #[.int .i64 0, .int .i64 (-1), .int .i64 1, .int .i64 (-1)] 35)
              go_upto_region 18 with fail
              generalize wr.alloc (.cells #[.int .i64 0, .int .i64 (-1), .int .i64 1, .int .i64 (-1)] 35) = w2 at B2 P2 R2 T2 ⊢
              obtain ⟨_, _, _, _, _, _, _, _, _⟩ := B2.four
              obtain ⟨_, _, _, _, _, _, _, _, _⟩ := P2.four
              go_wp2_with fail
              refine (times_lit p q 0 (-1) 1 (-1) r2 HSo.out.ok (by unfold Ent; omega) (by unfold Ent; omega) (by unfold Ent; omega) (by unfold Ent; omega) HTM.out _).mono ?_
              rintro e w3 ⟨rfl, hb3⟩
              have P3 := P2.below hb3
              have R3 := R2.below hb3
              obtain ⟨_, _, _, _, _, _, _, _, _⟩ := P3.four
              go_wp2
              go_roundw
              case rel => exact ⟨k + 1, q, r2, by omega, by go_num, rfl, HNX, by repeat (first | with_reducible exact own_refl _ | with_reducible assumption | with_reducible apply own_alloc | with_reducible apply own_drewN | with_reducible apply own_drew | ((with_reducible refine own_setCell ?_ ?_ _); rotate_left; focus (first | (simp; done) | (simp; omega))) | (with_reducible (refine own_trans ?_ (by assumption)))), (((R3.far (Ne.symm hne1) _).far (Ne.symm hne1) _).far (Ne.symm hne1) _).far (Ne.symm hne1) _, P3.put4 _ _ _ _⟩
              case measure => simp [intOf]; omega
        · have hke : ms.length = k := by have := HLN.out; omega
          obtain ⟨_, _, _, _, _, _, _, _, _⟩ := hR.four
          cases rr
          · have HE := Lib.hid (HSo.out.end_no HP.out HALL.out)
            go_wp2
            obtain ⟨d0, d1, d2, d3⟩ := hR.reads4' (.int .i64 0) (.int .i64 0) (.int .i64 0) (.int .i64 0)
            refine bodyPost_ret (v := .tuple #[(.agg #[.int .i64 0, .int .i64 0, .int .i64 0, .int .i64 0]), (.int .i64 3)]) (by simp [results, Tryd.results33, go_sem, d0, d1, d2, d3]) rfl ⟨?_, by repeat (first | with_reducible exact own_refl _ | with_reducible assumption | with_reducible apply own_alloc | with_reducible apply own_drewN | with_reducible apply own_drew | ((with_reducible refine own_setCell ?_ ?_ _); rotate_left; focus (first | (simp; done) | (simp; omega))) | (with_reducible (refine own_trans ?_ (by assumption))))⟩
            rw [HE.out.1, HE.out.2]
            rfl
          · have HE := Lib.hid (Sofar.end_yes (by rw [hke]; exact HSo.out) HP.out HALL.out)
            obtain ⟨_, _, _, _, _, _, _, _, _⟩ := hP.four
            clear hke
            go_wp2
            obtain ⟨d0, d1, d2, d3⟩ := hR.reads4' (.int .i64 p.a) (.int .i64 p.b) (.int .i64 p.c) (.int .i64 p.d)
            refine bodyPost_ret (v := .tuple #[(.agg #[.int .i64 p.a, .int .i64 p.b, .int .i64 p.c, .int .i64 p.d]), (.int .i64 0)]) (by simp [results, Tryd.results33, go_sem, d0, d1, d2, d3]) rfl ⟨?_, by repeat (first | with_reducible exact own_refl _ | with_reducible assumption | with_reducible apply own_alloc | with_reducible apply own_drewN | with_reducible apply own_drew | ((with_reducible refine own_setCell ?_ ?_ _); rotate_left; focus (first | (simp; done) | (simp; omega))) | (with_reducible (refine own_trans ?_ (by assumption))))⟩
            rw [HE.out.1, HE.out.2]
end Go.Proofs.YtkeadknbdihkmaaDoor
