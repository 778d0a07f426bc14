/- FractionOfPath: contracts of both sides. -/
import Derived.Test.YtkeadknbdihkmaaDoorPathM
namespace Go.Proofs.YtkeadknbdihkmaaDoor
open Go.ChangeShapes Go.WideShapes Go.ChangeAt Go.RowKit

theorem Box.reads2p {w : World} {g : Nat} {x0 x1 : Value} (h : Box w g [x0, x1]) (y0 y1 : Value) :
    (w.setCell ⟨g, 0, none⟩ y0).cell? ⟨g, 0, none⟩ = some y0 ∧ ((w.setCell ⟨g, 0, none⟩ y0).setCell ⟨g, 1, none⟩ y1).cell? ⟨g, 0, none⟩ = some y0 ∧ ((w.setCell ⟨g, 0, none⟩ y0).setCell ⟨g, 1, none⟩ y1).cell? ⟨g, 1, none⟩ = some y1 :=
  ⟨((h.set 0 (by simp) y0).two).2.1, (h.put2 y0 y1).two.2.1, (h.put2 y0 y1).two.2.2.1⟩
theorem specLow_top (p q x y : Int) (hx : lowP p q = x) (hy : lowQ p q = y) (hp : Mid p) (hq : Mid q) (h : ¬ (p = 0 ∧ q = 0)) (w : World) :
    Calls Tryd.prog 86 #[(.int .i64 p), (.int .i64 q)] w fun e w' => e = .returned (.agg #[.int .i64 x, .int .i64 y]) ∧ Below w.heap.size w w' := hx ▸ hy ▸ specLow_any p q hp hq h w
set_option maxHeartbeats 1000000 in
theorem medL_to (p q s t x y : Int) (ex : p + s = x) (ey : q + t = y) (hx : lowP x y = x) (hy : lowQ x y = y) (m1 : Mid x) (m2 : Mid y) (h0 : ¬ (x = 0 ∧ y = 0)) (w : World) :
    Calls Tryd.prog 80 #[(.agg #[.int .i64 p, .int .i64 q]), (.agg #[.int .i64 s, .int .i64 t])] w fun e w' => e = .returned (.agg #[.int .i64 x, .int .i64 y]) ∧ Below w.heap.size w w' := by
  subst ex ey
  have HX := Lib.hid hx
  have HY := Lib.hid hy
  have HM := Lib.hid m1
  have HM2 := Lib.hid m2
  have HN := Lib.hid h0
  obtain ⟨_, _⟩ := m1
  obtain ⟨_, _⟩ := m2
  clear hx hy h0
  have w1' : IntKind.i64.wrap (p + s) = p + s := IntWalk.i64_in _ (by omega)
  have w2' : IntKind.i64.wrap (q + t) = q + t := IntWalk.i64_in _ (by omega)
  go_enter Tryd.func80, Tryd.ntmps80
  go_wp2_with fail
  refine (specLow_top (p + s) (q + t) (p + s) (q + t) HX.out HY.out HM.out HM2.out HN.out _).mono ?_
  rintro e w1 ⟨rfl, hb1⟩
  have Z1 : Box w1 (w.heap.size + 1 + 1) [.int .i64 0, .int .i64 0] := Box.below (Box.newAt (by simp) _ _) hb1
  obtain ⟨_, _, _, _, _⟩ := Z1.two
  go_wp2
  obtain ⟨_, d1, d2⟩ := Z1.reads2p (.int .i64 (p + s)) (.int .i64 (q + t))
  exact bodyPost_ret (v := (.agg #[.int .i64 (p + s), .int .i64 (q + t)])) (by simp [results, Tryd.results80, go_sem, d1, d2]) rfl ⟨rfl, by repeat (first | with_reducible exact own_refl _ | with_reducible assumption | with_reducible apply own_alloc | with_reducible apply own_drewN | with_reducible apply own_drew | ((with_reducible refine own_setCell ?_ ?_ _); rotate_left; focus (first | (simp; done) | (simp; omega))) | (with_reducible (refine own_trans ?_ (by assumption))))⟩
/-- The mediant at a place. -/
theorem medPl (m : Mat) (k : Nat) (h : Pl m k) (hk : k ≤ 40) (w : World) :
    Calls Tryd.prog 80 #[(.agg #[.int .i64 m.b, .int .i64 m.d]), (.agg #[.int .i64 m.a, .int .i64 m.c])] w fun e w' => e = .returned (.agg #[.int .i64 (m.a + m.b), .int .i64 (m.c + m.d)]) ∧ Below w.heap.size w w' := by
  obtain ⟨l1, l2, m1, m2, h0⟩ := h.low hk
  exact medL_to _ _ _ _ _ _ (Int.add_comm _ _) (Int.add_comm _ _) l1 l2 m1 m2 h0 w
set_option maxRecDepth 100000 in
set_option maxHeartbeats 2000000 in
theorem specOfPath (s : ByteArray) (hn : s.size ≤ 40) (m : Mat) (hm : walkM s.data.toList = m) (w : World) :
    Calls Tryd.prog 64 #[.string s] w fun e w' => e = .returned (.agg #[.int .i64 (m.a + m.b), .int .i64 (m.c + m.d)]) ∧ Below w.heap.size w w' := by
  have HM := Lib.hid hm
  clear hm
  have n01 : w.heap.size ≠ w.heap.size + 1 := by omega
  have n02 : w.heap.size ≠ w.heap.size + 1 + 1 := by omega
  have n12 : w.heap.size + 1 ≠ w.heap.size + 1 + 1 := by omega
  have n21 : w.heap.size + 1 + 1 ≠ w.heap.size + 1 := by omega
  go_enter Tryd.func64, Tryd.ntmps64
  go_wp2
  go_loopw [5] (fun i wr => ∃ (k : Nat) (q : Mat), k ≤ s.size ∧ i = (.int .i64 k) ∧ Hid (walkM (s.data.toList.take k) = q) ∧ Below w.heap.size w wr ∧ Box wr w.heap.size [.int .i64 0, .int .i64 0] ∧ Box wr (w.heap.size + 1) [.int .i64 q.b, .int .i64 q.d] ∧ Box wr (w.heap.size + 1 + 1) [.int .i64 q.a, .int .i64 q.c]) (fun i _ => s.size - (intOf i).toNat)
  case atStart => exact ⟨0, Mat.one, Nat.zero_le _, rfl, Lib.hid rfl, by repeat (first | with_reducible exact own_refl _ | with_reducible assumption | with_reducible apply own_alloc | with_reducible apply own_drewN | with_reducible apply own_drew | ((with_reducible refine own_setCell ?_ ?_ _); rotate_left; focus (first | (simp; done) | (simp; omega))) | (with_reducible (refine own_trans ?_ (by assumption)))), Box.alloc (Box.alloc (Box.new _ _ _) _) _, Box.alloc (Box.newAt (by simp) _ _) _, Box.newAt (by simp) _ _⟩
  case round =>
    obtain ⟨k, q, hk, rfl, HQ, T, hR, hl, hr⟩ := hrel
    have HPL : Hid (Pl q k) := Lib.hid (HQ.out ▸ walkM_at s k hk)
    obtain ⟨z1, _, _, _, _⟩ := hl.two
    obtain ⟨z2, _, _, _, _⟩ := hr.two
    by_cases hlt : k < s.size
    · have hix := idx_str s k hlt
      have HS := Lib.hid (walkM_step s k hlt)
      rw [HQ.out] at HS
      by_cases hc : s[k] = 76
      · have hix2 : ∀ w, (Instr.index 9 (.string s) (.int .i64 (k : Int))).run Tryd.prog w = .ok (.int .u8 76) w := idx_lit s k 76 hlt hc
        rw [hc, stepM_L] at HS
        clear hc hix
        go_wp2_with fail
        refine (medPl q k HPL.out (by omega) _).mono ?_
        rintro e w1 ⟨rfl, hb1⟩
        have R1 := hr.below hb1
        have L1 := hl.below hb1
        have RR := hR.below hb1
        obtain ⟨_, _, _, _, _⟩ := R1.two
        go_wp2
        go_roundw
        case rel => exact ⟨k + 1, ⟨q.a + q.b, q.b, q.c + q.d, q.d⟩, by omega, by go_num, HS, by repeat (first | with_reducible exact own_refl _ | with_reducible assumption | with_reducible apply own_alloc | with_reducible apply own_drewN | with_reducible apply own_drew | ((with_reducible refine own_setCell ?_ ?_ _); rotate_left; focus (first | (simp; done) | (simp; omega))) | (with_reducible (refine own_trans ?_ (by assumption)))), (RR.far n02 _).far n02 _, (L1.far n12 _).far n12 _, R1.put2 _ _⟩
        case measure => simp [intOf]; omega
      · obtain ⟨x, hix2, hxx⟩ := idx_any s k hlt
        have h1 : (x == 76) = false := hxx.out 76 hc
        rw [stepM_R _ _ hc] at HS
        clear hc hix
        go_wp2_with fail
        refine (medPl q k HPL.out (by omega) _).mono ?_
        rintro e w1 ⟨rfl, hb1⟩
        have R1 := hr.below hb1
        have L1 := hl.below hb1
        have RR := hR.below hb1
        obtain ⟨_, _, _, _, _⟩ := L1.two
        go_wp2
        go_roundw
        case rel => exact ⟨k + 1, ⟨q.a, q.a + q.b, q.c, q.c + q.d⟩, by omega, by go_num, HS, by repeat (first | with_reducible exact own_refl _ | with_reducible assumption | with_reducible apply own_alloc | with_reducible apply own_drewN | with_reducible apply own_drew | ((with_reducible refine own_setCell ?_ ?_ _); rotate_left; focus (first | (simp; done) | (simp; omega))) | (with_reducible (refine own_trans ?_ (by assumption)))), (RR.far n01 _).far n01 _, L1.put2 _ _, (R1.far n21 _).far n21 _⟩
        case measure => simp [intOf]; omega
    · have hke : k = s.size := by omega
      have HE : Hid (q = m) := Lib.hid (by rw [← HQ.out, ← HM.out, List.take_of_length_le (by rw [str_len]; omega)])
      go_wp2_with fail
      refine (medPl q k HPL.out (by omega) _).mono ?_
      rintro e w1 ⟨rfl, hb1⟩
      have RR := hR.below hb1
      obtain ⟨_, _, _, _, _⟩ := RR.two
      go_wp2
      obtain ⟨_, d1, d2⟩ := RR.reads2p (.int .i64 (q.a + q.b)) (.int .i64 (q.c + q.d))
      exact bodyPost_ret (v := (.agg #[.int .i64 (q.a + q.b), .int .i64 (q.c + q.d)])) (by simp [results, Tryd.results64, go_sem, d1, d2]) rfl ⟨by rw [HE.out], by repeat (first | with_reducible exact own_refl _ | with_reducible assumption | with_reducible apply own_alloc | with_reducible apply own_drewN | with_reducible apply own_drew | ((with_reducible refine own_setCell ?_ ?_ _); rotate_left; focus (first | (simp; done) | (simp; omega))) | (with_reducible (refine own_trans ?_ (by assumption))))⟩

/-- What FractionOfPath answers, both ways. -/
theorem pathOk_letter (s : ByteArray) (k : Nat) (hk : k < s.size) (h : pathOk s.data.toList = true) : s[k] = 76 ∨ s[k] = 82 := by
  have hl : k < s.data.toList.length := by rw [str_len]; exact hk
  have := List.all_eq_true.1 h _ (List.getElem_mem hl)
  rw [str_at s k hk hl] at this
  simpa using this
theorem pathOk_step (s : ByteArray) (k : Nat) (hk : k < s.size) (h : pathOk (s.data.toList.take k) = true) (hc : s[k] = 76 ∨ s[k] = 82) : pathOk (s.data.toList.take (k + 1)) = true := by
  have hl : k < s.data.toList.length := by rw [str_len]; exact hk
  rw [List.take_succ_eq_append_getElem hl, str_at s k hk hl]
  simp only [pathOk, List.all_append, List.all_cons, List.all_nil, Bool.and_true, Bool.and_eq_true] at h ⊢
  refine ⟨h, ?_⟩
  simpa using hc
set_option maxRecDepth 100000 in
set_option maxHeartbeats 2000000 in
theorem specFop_yes (s : ByteArray) (hn : s.size ≤ 40) (ho : pathOk s.data.toList = true) (m : Mat) (hm : walkM s.data.toList = m) (w : World) :
    Calls Tryd.prog 35 #[.string s] w fun e w' => e = .returned (.tuple #[(.agg #[.int .i64 (m.a + m.b), .int .i64 (m.c + m.d)]), (.int .i64 0)]) ∧ Below w.heap.size w w' := by
  have HM := Lib.hid hm
  have HO := Lib.hid ho
  have hn1 : ¬ (40 : Int) < (s.size : Int) := by omega
  clear hm ho
  go_enter Tryd.func35, Tryd.ntmps35
  go_wp2
  go_loopw [4] (fun i wr => ∃ k : Nat, k ≤ s.size ∧ i = (.int .i64 k) ∧ wr = w.alloc (.cells #[.int .i64 0, .int .i64 0] 50)) (fun i _ => s.size - (intOf i).toNat)
  case atStart => exact ⟨0, Nat.zero_le _, rfl, rfl⟩
  case round =>
    obtain ⟨k, hk, rfl, rfl⟩ := hrel
    by_cases hlt : k < s.size
    · rcases pathOk_letter s k hlt HO.out with hc | hc
      · have hix : ∀ w, (Instr.index 9 (.string s) (.int .i64 (k : Int))).run Tryd.prog w = .ok (.int .u8 76) w := idx_lit s k 76 hlt hc
        clear hc
        go_wp2
        go_roundw
        case rel => exact ⟨k + 1, by omega, by go_num, trivial⟩
        case measure => simp [intOf]; omega
      · have hix : ∀ w, (Instr.index 9 (.string s) (.int .i64 (k : Int))).run Tryd.prog w = .ok (.int .u8 82) w := idx_lit s k 82 hlt hc
        clear hc
        go_wp2
        go_roundw
        case rel => exact ⟨k + 1, by omega, by go_num, trivial⟩
        case measure => simp [intOf]; omega
    · go_wp2_with fail
      refine (specOfPath s hn m HM.out _).mono ?_
      rintro e w1 ⟨rfl, hb1⟩
      have RR : Box w1 w.heap.size [.int .i64 0, .int .i64 0] := Box.below (Box.new _ _ _) hb1
      obtain ⟨_, _, _, _, _⟩ := RR.two
      go_wp2
      obtain ⟨_, d1, d2⟩ := RR.reads2p (.int .i64 (m.a + m.b)) (.int .i64 (m.c + m.d))
      exact bodyPost_ret (v := .tuple #[(.agg #[.int .i64 (m.a + m.b), .int .i64 (m.c + m.d)]), (.int .i64 0)]) (by simp [results, Tryd.results35, go_sem, d1, d2]) rfl ⟨rfl, by repeat (first | with_reducible exact own_refl _ | with_reducible assumption | with_reducible apply own_alloc | with_reducible apply own_drewN | with_reducible apply own_drew | ((with_reducible refine own_setCell ?_ ?_ _); rotate_left; focus (first | (simp; done) | (simp; omega))) | (with_reducible (refine own_trans ?_ (by assumption))))⟩
set_option maxHeartbeats 2000000 in
theorem specFop_long (s : ByteArray) (hn : ¬ s.size ≤ 40) (hn' : s.size ≤ 9223372036854775807) (w : World) :
    Calls Tryd.prog 35 #[.string s] w fun e w' => e = .returned (.tuple #[(.agg #[.int .i64 0, .int .i64 0]), (.int .i64 2)]) ∧ Below w.heap.size w w' := by
  have hn1 : (40 : Int) < (s.size : Int) := by omega
  go_enter Tryd.func35, Tryd.ntmps35
  go_wp2
  exact bodyPost_ret (v := .tuple #[(.agg #[.int .i64 0, .int .i64 0]), (.int .i64 2)]) (by simp [results, Tryd.results35, go_sem]) rfl ⟨rfl, by repeat (first | with_reducible exact own_refl _ | with_reducible assumption | with_reducible apply own_alloc | with_reducible apply own_drewN | with_reducible apply own_drew | ((with_reducible refine own_setCell ?_ ?_ _); rotate_left; focus (first | (simp; done) | (simp; omega))) | (with_reducible (refine own_trans ?_ (by assumption))))⟩
set_option maxRecDepth 100000 in
set_option maxHeartbeats 2000000 in
theorem specFop_no (s : ByteArray) (hn : s.size ≤ 40) (ho : pathOk s.data.toList = false) (w : World) :
    Calls Tryd.prog 35 #[.string s] w fun e w' => e = .returned (.tuple #[(.agg #[.int .i64 0, .int .i64 0]), (.int .i64 2)]) ∧ Below w.heap.size w w' := by
  have HO := Lib.hid ho
  have hn1 : ¬ (40 : Int) < (s.size : Int) := by omega
  clear ho
  go_enter Tryd.func35, Tryd.ntmps35
  go_wp2
  go_loopw [4] (fun i wr => ∃ k : Nat, k ≤ s.size ∧ i = (.int .i64 k) ∧ wr = w.alloc (.cells #[.int .i64 0, .int .i64 0] 50) ∧ pathOk (s.data.toList.take k) = true) (fun i _ => s.size - (intOf i).toNat)
  case atStart => exact ⟨0, Nat.zero_le _, rfl, rfl, rfl⟩
  case round =>
    obtain ⟨k, hk, rfl, rfl, hp⟩ := hrel
    have HP := Lib.hid hp
    clear hp
    by_cases hlt : k < s.size
    · by_cases hc : s[k] = 76
      · have hix : ∀ w, (Instr.index 9 (.string s) (.int .i64 (k : Int))).run Tryd.prog w = .ok (.int .u8 76) w := idx_lit s k 76 hlt hc
        have HS := Lib.hid (pathOk_step s k hlt HP.out (.inl hc))
        clear hc
        go_wp2
        go_roundw
        case rel => exact ⟨k + 1, by omega, by go_num, trivial, HS.out⟩
        case measure => simp [intOf]; omega
      · by_cases hc2 : s[k] = 82
        · have hix : ∀ w, (Instr.index 9 (.string s) (.int .i64 (k : Int))).run Tryd.prog w = .ok (.int .u8 82) w := idx_lit s k 82 hlt hc2
          have HS := Lib.hid (pathOk_step s k hlt HP.out (.inr hc2))
          clear hc hc2
          go_wp2
          go_roundw
          case rel => exact ⟨k + 1, by omega, by go_num, trivial, HS.out⟩
          case measure => simp [intOf]; omega
        · obtain ⟨x, hix2, hxx⟩ := idx_any s k hlt
          have h1 : (x == 76) = false := hxx.out 76 hc
          have h2 : (x == 82) = false := hxx.out 82 hc2
          have h3 : (x != 76) = true := by simp [bne, h1]
          have h4 : (x != 82) = true := by simp [bne, h2]
          clear hc hc2
          go_wp2
          exact bodyPost_ret (v := .tuple #[(.agg #[.int .i64 0, .int .i64 0]), (.int .i64 2)]) (by simp [results, Tryd.results35, go_sem]) rfl ⟨rfl, by repeat (first | with_reducible exact own_refl _ | with_reducible assumption | with_reducible apply own_alloc | with_reducible apply own_drewN | with_reducible apply own_drew | ((with_reducible refine own_setCell ?_ ?_ _); rotate_left; focus (first | (simp; done) | (simp; omega))) | (with_reducible (refine own_trans ?_ (by assumption))))⟩
    · exfalso
      have := HP.out
      rw [List.take_of_length_le (by rw [str_len]; omega), HO.out] at this
      cases this
end Go.Proofs.YtkeadknbdihkmaaDoor
