/- spec.l02Runs: contract. -/
import Derived.Test.YtpglcpolbhlekaaDoorRunM
import Derived.Test.YtpglcpolbhlekaaDoorGr
import Derived.Test.YtpglcpolbhlekaaDoorEqM
namespace Go.Proofs.YtpglcpolbhlekaaDoor
open Go.ChangeShapes Go.WideShapes Go.ChangeAt Go.RowKit

theorem Gr.made (w : World) (L : Nat) (hL : L ≤ w.heap.size) : Gr (w.alloc (.cells #[] 2)) L (.slice (some ⟨w.heap.size, 0, none⟩) 0 0) [] :=
  World.ownsRow_made w #[] 0 hL (by unfold maxLen; omega) (by simp)
theorem Gr.madeAt {w : World} {L g : Nat} (hg : w.heap.size = g) (hL : L ≤ g) : Gr (w.alloc (.cells #[] 2)) L (.slice (some ⟨g, 0, none⟩) 0 0) [] := hg ▸ Gr.made w L (hg ▸ hL)
set_option maxHeartbeats 400000 in
theorem l02Unit_any (w : World) : Calls Tryd.prog 60 #[] w fun e w' => e = .returned (.agg #[.int .i64 1, .int .i64 0, .int .i64 0, .int .i64 1]) ∧ Below w.heap.size w w' := by
  go_enter Tryd.func60, Tryd.ntmps60
  go_wp2
  exact bodyPost_ret (v := (.agg #[.int .i64 1, .int .i64 0, .int .i64 0, .int .i64 1])) (by simp [results, Tryd.results60, go_sem]) rfl ⟨rfl, by repeat (first | with_reducible exact own_refl _ | with_reducible assumption | with_reducible apply own_alloc | with_reducible apply own_drewN | with_reducible apply own_drew | ((with_reducible refine own_setCell ?_ ?_ _); rotate_left; focus (first | (simp; done) | (simp; omega))) | (with_reducible (refine own_trans ?_ (by assumption))))⟩

/-- What the block holds of a state: turned about at odd turns. -/
def Turned (t : Nat) (a b c d e f g h : Int) : Prop := (t % 2 = 0 ∧ a = e ∧ b = f ∧ c = g ∧ d = h) ∨ (t % 2 = 1 ∧ d = e ∧ c = f ∧ b = g ∧ a = h)
/-- What a round of the spec's machine keeps. -/
def RS (w wr : World) (v : Value) (xs : List Int) (e f g h : Int) : Prop := Below w.heap.size w wr ∧ w.heap.size + 1 ≤ wr.heap.size ∧ Gr wr (w.heap.size + 1) v xs ∧ Box wr w.heap.size [.int .i64 e, .int .i64 f, .int .i64 g, .int .i64 h]

set_option maxRecDepth 100000 in
theorem RS.step {w wr w2 : World} {v : Value} {xs : List Int} {e f g h : Int} (hr : RS w wr v xs e f g h) (hb : Below wr.heap.size wr w2) : RS w w2 v xs e f g h :=
  ⟨own_trans hr.1 hb, Nat.le_trans hr.2.1 hb.size, hr.2.2.1.own hb, hr.2.2.2.below hb⟩
theorem RS.drew {w wr : World} {v : Value} {xs : List Int} {e f g h : Int} (hr : RS w wr v xs e f g h) : RS w wr.drew v xs e f g h := ⟨hr.1.drew, hr.2.1, hr.2.2.1, hr.2.2.2⟩
theorem RS.drewN {w wr : World} {v : Value} {xs : List Int} {e f g h : Int} (hr : RS w wr v xs e f g h) (n : Nat) : RS w (wr.drewN n) v xs e f g h := ⟨below_drewN' hr.1 n, hr.2.1, hr.2.2.1, hr.2.2.2⟩
theorem RS.top {w wr : World} {v : Value} {xs : List Int} {e f g h : Int} (hr : RS w wr v xs e f g h) (n : Nat) (x y : Int) :
    RS w (((wr.drewN n).setCell ⟨w.heap.size, 0, none⟩ (.int .i64 x)).setCell ⟨w.heap.size, 1, none⟩ (.int .i64 y)).drew v xs x y g h := by
  have hr := RS.drewN hr n
  refine RS.drew ⟨own_setCell (own_setCell hr.1 (Nat.le_refl _) _) (Nat.le_refl _) _, by simpa [World.setCell] using hr.2.1, (hr.2.2.1.set (Nat.lt_succ_self _) _).set (Nat.lt_succ_self _) _, ?_⟩
  exact (hr.2.2.2.set 0 (by simp) (.int .i64 x)).set 1 (by simp) (.int .i64 y)
theorem RS.bot {w wr : World} {v : Value} {xs : List Int} {e f g h : Int} (hr : RS w wr v xs e f g h) (n : Nat) (x y : Int) :
    RS w (((wr.drewN n).setCell ⟨w.heap.size, 2, none⟩ (.int .i64 x)).setCell ⟨w.heap.size, 3, none⟩ (.int .i64 y)).drew v xs e f x y := by
  have hr := RS.drewN hr n
  refine RS.drew ⟨own_setCell (own_setCell hr.1 (Nat.le_refl _) _) (Nat.le_refl _) _, by simpa [World.setCell] using hr.2.1, (hr.2.2.1.set (Nat.lt_succ_self _) _).set (Nat.lt_succ_self _) _, ?_⟩
  exact (hr.2.2.2.set 2 (by simp) (.int .i64 x)).set 3 (by simp) (.int .i64 y)
theorem RS.four {w wr : World} {v : Value} {xs : List Int} {e f g h : Int} (hr : RS w wr v xs e f g h) :
    wr.cell? ⟨w.heap.size, 0, none⟩ = some (.int .i64 e) ∧ wr.cell? ⟨w.heap.size, 1, none⟩ = some (.int .i64 f) ∧ wr.cell? ⟨w.heap.size, 2, none⟩ = some (.int .i64 g) ∧ wr.cell? ⟨w.heap.size, 3, none⟩ = some (.int .i64 h) ∧
      wr.frozen? ⟨w.heap.size, 0, none⟩ = false ∧ wr.frozen? ⟨w.heap.size, 1, none⟩ = false ∧ wr.frozen? ⟨w.heap.size, 2, none⟩ = false ∧ wr.frozen? ⟨w.heap.size, 3, none⟩ = false := hr.2.2.2.four.2

set_option maxRecDepth 100000 in
set_option maxHeartbeats 8000000 in
theorem specRuns_any (F : Nat) (a0 b0 c0 d0 : Int) (hp : Pos a0 b0 c0 d0) (hf : msr a0 b0 c0 d0 ≤ F) (hf' : F ≤ 8000000001) (w : World) :
    Calls Tryd.prog 36 #[(.agg #[.int .i64 a0, .int .i64 b0, .int .i64 c0, .int .i64 d0])] w fun e w' => ∃ v, e = .returned v ∧ Gr w' (w.heap.size + 1) v (runsF F a0 b0 c0 d0) ∧ Below w.heap.size w w' := by
  go_enter Tryd.func36, Tryd.ntmps36
  go_wp2
  go_loopw [3, 4] (fun v s wr => ∃ (t : Nat) (done : List Int) (F' : Nat) (a b c d e f g h : Int), s = (.int .i64 t) ∧ t + F' ≤ F ∧ Hid (runsF F a0 b0 c0 d0 = done ++ runsF F' a b c d) ∧ Hid (Pos a b c d) ∧ Hid (msr a b c d ≤ F') ∧ F' + done.length ≤ F ∧
      Hid (Turned t a b c d e f g h) ∧ RS w wr v done e f g h) (fun v _ _ => F - lenOf v)
  case atStart => exact ⟨0, [], F, a0, b0, c0, d0, a0, b0, c0, d0, rfl, by omega, Lib.hid rfl, Lib.hid hp, Lib.hid hf, by first | (simp; done) | exact Nat.le_refl _, Lib.hid (.inl ⟨rfl, rfl, rfl, rfl, rfl⟩), by repeat (first | with_reducible exact own_refl _ | with_reducible assumption | with_reducible apply own_alloc | with_reducible apply own_drewN | with_reducible apply own_drew | ((with_reducible refine own_setCell ?_ ?_ _); rotate_left; focus (first | (simp; done) | (simp; omega))) | (with_reducible (refine own_trans ?_ (by assumption)))), by first | (simp; done) | exact Nat.le_refl _, Gr.madeAt (by simp) (Nat.le_refl _), Box.alloc (Box.new _ _ _) _⟩
  case round =>
    obtain ⟨t, done, F', a, b, c, d, e, f, g, h, rfl, htF, HEQ, HP, HM, hlen, HT, T, hz, hG, hB⟩ := hrel
    obtain ⟨ad, cap, hv⟩ := hG.shape
    subst hv
    obtain ⟨_, m0, m1, m2, m3, _, _, _, _⟩ := hB.four
    clear hp hf
    rcases he : decide (e = 1 ∧ f = 0 ∧ g = 0 ∧ h = 1) with _ | _
    case true =>
      have hN := eq_mat_is true e f g h 1 0 0 1 he
      have HE : Hid (a = 1 ∧ b = 0 ∧ c = 0 ∧ d = 1) := Lib.hid (by have := of_decide_eq_true he; rcases HT.out with ⟨_, h1, h2, h3, h4⟩ | ⟨_, h1, h2, h3, h4⟩ <;> omega)
      clear he
      go_upto_region 3 with fail
      go_cut [13] (fun s wx => s = .bool false ∧ RS w wx (.slice ad done.length cap) done e f g h)
      case first =>
        have I : RS w wr (.slice ad done.length cap) done e f g h := ⟨T, hz, hG, hB⟩
        clear T hz hG hB
        go_region_held3 (fun w' => w'.cell? ⟨w.heap.size, 0, none⟩ = some (.int .i64 e) ∧ w'.cell? ⟨w.heap.size, 1, none⟩ = some (.int .i64 f) ∧ w'.cell? ⟨w.heap.size, 2, none⟩ = some (.int .i64 g) ∧ w'.cell? ⟨w.heap.size, 3, none⟩ = some (.int .i64 h)) (go_keep)
          (first | (go_at_call 60; refine (l02Unit_any _).mono ?_; rintro r w2 ⟨rfl, hb2⟩; have I := RS.step (by first | exact I | exact RS.drew I) hb2; clear hb2; obtain ⟨c0, c1, c2, c3, f0, f1, f2, f3⟩ := RS.four I))
        all_goals
          go_wp2_with fail
          go_meet
          exact ⟨rfl, I⟩
      case rest =>
        obtain ⟨rfl, I⟩ := hcut
        go_wp2
        go_ret
        refine ⟨_, rfl, ?_, I.1⟩
        obtain ⟨rfl, rfl, rfl, rfl⟩ := HE.out
        rw [HEQ.out, runsF_unit, List.append_nil]
        exact I.2.2.1
    case false =>
    have hN := eq_mat_is false e f g h 1 0 0 1 he
    have HE : Hid (decide (a = 1 ∧ b = 0 ∧ c = 0 ∧ d = 1) = false) := Lib.hid (by have := of_decide_eq_false he; refine decide_eq_false (fun hh => this ?_); rcases HT.out with ⟨_, h1, h2, h3, h4⟩ | ⟨_, h1, h2, h3, h4⟩ <;> omega)
    clear he
    go_upto_region 3 with fail
    go_cut [13] (fun s wx => s = .bool true ∧ RS w wx (.slice ad done.length cap) done e f g h)
    case first =>
      have I : RS w wr (.slice ad done.length cap) done e f g h := ⟨T, hz, hG, hB⟩
      clear T hz hG hB
      go_region_held3 (fun w' => w'.cell? ⟨w.heap.size, 0, none⟩ = some (.int .i64 e) ∧ w'.cell? ⟨w.heap.size, 1, none⟩ = some (.int .i64 f) ∧ w'.cell? ⟨w.heap.size, 2, none⟩ = some (.int .i64 g) ∧ w'.cell? ⟨w.heap.size, 3, none⟩ = some (.int .i64 h)) (go_keep)
        (first | (go_at_call 60; refine (l02Unit_any _).mono ?_; rintro r w2 ⟨rfl, hb2⟩; have I := RS.step (by first | exact I | exact RS.drew I) hb2; clear hb2; obtain ⟨c0, c1, c2, c3, f0, f1, f2, f3⟩ := RS.four I))
      all_goals
        go_wp2_with fail
        go_meet
        exact ⟨rfl, I⟩
    case rest =>
      obtain ⟨rfl, I⟩ := hcut
      clear T hz hG hB m0 m1 m2 m3 hN
      obtain ⟨c0', c1', c2', c3', f0, f1, f2, f3⟩ := RS.four I
      have hp := HP.out
      obtain ⟨hd1, ha1⟩ := pos_d hp
      obtain ⟨q0, q1, q2, q3, q4, q5, q6, q7⟩ := pos_facts hp
      obtain ⟨q, hq⟩ : ∃ q, b / d = q := ⟨_, rfl⟩
      have ht : b.tdiv d = q := by rw [Int.tdiv_eq_ediv_of_nonneg hp.2.1, hq]
      rw [hq] at q0 q1 q2 q3 q4 q5 q6 q7
      have hbl := hp.2.2.2.2.2.1
      have hal := hp.2.2.2.2.1
      have ha0 := hp.1
      have hc0 := hp.2.2.1
      have hb0 := hp.2.1
      obtain ⟨k, x, y, hf2, hx, hy, _, _, _, _, _, H1, H2, H3⟩ := runs_round hp HM.out HE.out hq
      have HF := Lib.hid hf2
      have hxb : 0 ≤ x ∧ x ≤ 1000000000 := by omega
      have hyb : 0 ≤ y ∧ y ≤ 1000000000 := by omega
      have HQ7 := Lib.hid q7
      have HQD := Lib.hid hq
      clear hp hq q2 q3 q4 q5 q6 q7 hf2
      have hFk : t + 1 + k ≤ F := by have := HF.out; omega
      clear htF
      rcases HT.out with HT' | HT'
      · rcases (show c = 0 ∨ c ≠ 0 by omega) with hcz | hcz
        · skip
          obtain ⟨hpar, rfl, rfl, rfl, rfl⟩ := HT'
          have hp2 : (t : Int).tmod 2 = 0 := by rw [Int.tmod_eq_emod_of_nonneg (by omega)]; omega
          have HPAR := Lib.hid hpar
          clear hpar
          subst hcz
          have hx0 : x = a := by rw [← hx]; simp
          subst hx0
          clear HQ7 hc0
          have hdz : (d == 0) = false := by simp; omega
          go_wp2
          refine wp_loop_rounds 3 ?_
          iterate 3
            rw [rounds_succ]
            go_wp2
            try (go_quiet (fail))
            try go_wp2
          go_region
          go_wp2
          go_region
          go_upto_region 15 with fail
          refine (fun (K : ∀ wx, RS w wx (.slice ad done.length cap) done x y 0 d → Code.wp _ _ _ _ wx) => K _ (RS.top I _ _ _)) ?_
          intro wx IW
          clear I c0' c1' c2' c3' f0 f1 f2 f3
          have hzx := IW.2.1
          go_wp2_with (at_builtin; refine app64 rfl _ _ rfl (w.heap.size + 1) wx (.slice ad done.length cap) done q rfl IW.2.2.1 wx.heap.size rfl rfl (by omega) hzx ?_; intro v' w1 hG1 hb1)
          go_roundw
          case rel => exact ⟨t + 1, done ++ [q], k, d, 0, y, x, x, y, 0, d, by go_num, hFk, Lib.hid (by rw [HEQ.out, H1.out]; simp), H2, H3, by have := HF.out; simp; omega, Lib.hid (.inr ⟨by have := HPAR.out; omega, rfl, rfl, rfl, rfl⟩), IW.1.trans (hb1.mono (by omega)), Nat.le_trans hzx hb1.size, hG1, IW.2.2.2.low hb1 (by omega)⟩
          case measure => rw [hG1.len]; have := HF.out; simp [lenOf]; omega
        rcases (show b / d < a / c ∨ ¬ b / d < a / c by omega) with hlt | hlt
        · skip
          obtain ⟨hpar, rfl, rfl, rfl, rfl⟩ := HT'
          have hp2 : (t : Int).tmod 2 = 0 := by rw [Int.tmod_eq_emod_of_nonneg (by omega)]; omega
          have HPAR := Lib.hid hpar
          clear hpar
          have hcp : 0 < c := by omega
          have hcz' : (c == 0) = false := by simp; omega
          obtain ⟨qa, hqa⟩ : ∃ qa, a.tdiv c = qa := ⟨_, rfl⟩
          have hqa' : q ≤ qa := by have := HQ7.out; rw [← hqa, Int.tdiv_eq_ediv_of_nonneg ha0]; omega
          have hqa2 : qa ≤ 1000000000 := by have := Int.ediv_le_self c ha0; rw [← hqa, Int.tdiv_eq_ediv_of_nonneg ha0]; omega
          clear HQ7
          have hql : q < qa := by have := HQD.out; have h2 := Int.tdiv_eq_ediv_of_nonneg (b := c) ha0; omega
          clear hlt
          have hdz : (d == 0) = false := by simp; omega
          go_wp2
          refine wp_loop_rounds 3 ?_
          iterate 3
            rw [rounds_succ]
            go_wp2
            try (go_quiet (fail))
            try go_wp2
          go_region
          go_wp2
          go_region
          go_upto_region 15 with fail
          refine (fun (K : ∀ wx, RS w wx (.slice ad done.length cap) done x y c d → Code.wp _ _ _ _ wx) => K _ (RS.top I _ _ _)) ?_
          intro wx IW
          clear I c0' c1' c2' c3' f0 f1 f2 f3
          have hzx := IW.2.1
          go_wp2_with (at_builtin; refine app64 rfl _ _ rfl (w.heap.size + 1) wx (.slice ad done.length cap) done q rfl IW.2.2.1 wx.heap.size rfl rfl (by omega) hzx ?_; intro v' w1 hG1 hb1)
          go_roundw
          case rel => exact ⟨t + 1, done ++ [q], k, d, c, y, x, x, y, c, d, by go_num, hFk, Lib.hid (by rw [HEQ.out, H1.out]; simp), H2, H3, by have := HF.out; simp; omega, Lib.hid (.inr ⟨by have := HPAR.out; omega, rfl, rfl, rfl, rfl⟩), IW.1.trans (hb1.mono (by omega)), Nat.le_trans hzx hb1.size, hG1, IW.2.2.2.low hb1 (by omega)⟩
          case measure => rw [hG1.len]; have := HF.out; simp [lenOf]; omega
        · skip
          obtain ⟨hpar, rfl, rfl, rfl, rfl⟩ := HT'
          have hp2 : (t : Int).tmod 2 = 0 := by rw [Int.tmod_eq_emod_of_nonneg (by omega)]; omega
          have HPAR := Lib.hid hpar
          clear hpar
          have hcp : 0 < c := by omega
          have hcz' : (c == 0) = false := by simp; omega
          obtain ⟨qa, hqa⟩ : ∃ qa, a.tdiv c = qa := ⟨_, rfl⟩
          have hqa' : q ≤ qa := by have := HQ7.out; rw [← hqa, Int.tdiv_eq_ediv_of_nonneg ha0]; omega
          have hqa2 : qa ≤ 1000000000 := by have := Int.ediv_le_self c ha0; rw [← hqa, Int.tdiv_eq_ediv_of_nonneg ha0]; omega
          clear HQ7
          obtain rfl : q = qa := by have := HQD.out; have h2 := Int.tdiv_eq_ediv_of_nonneg (b := c) ha0; omega
          clear hlt
          have hdz : (d == 0) = false := by simp; omega
          go_wp2
          refine wp_loop_rounds 3 ?_
          iterate 3
            rw [rounds_succ]
            go_wp2
            try (go_quiet (fail))
            try go_wp2
          go_region
          go_wp2
          go_region
          go_upto_region 15 with fail
          refine (fun (K : ∀ wx, RS w wx (.slice ad done.length cap) done x y c d → Code.wp _ _ _ _ wx) => K _ (RS.top I _ _ _)) ?_
          intro wx IW
          clear I c0' c1' c2' c3' f0 f1 f2 f3
          have hzx := IW.2.1
          go_wp2_with (at_builtin; refine app64 rfl _ _ rfl (w.heap.size + 1) wx (.slice ad done.length cap) done q rfl IW.2.2.1 wx.heap.size rfl rfl (by omega) hzx ?_; intro v' w1 hG1 hb1)
          go_roundw
          case rel => exact ⟨t + 1, done ++ [q], k, d, c, y, x, x, y, c, d, by go_num, hFk, Lib.hid (by rw [HEQ.out, H1.out]; simp), H2, H3, by have := HF.out; simp; omega, Lib.hid (.inr ⟨by have := HPAR.out; omega, rfl, rfl, rfl, rfl⟩), IW.1.trans (hb1.mono (by omega)), Nat.le_trans hzx hb1.size, hG1, IW.2.2.2.low hb1 (by omega)⟩
          case measure => rw [hG1.len]; have := HF.out; simp [lenOf]; omega
      · rcases (show c = 0 ∨ c ≠ 0 by omega) with hcz | hcz
        · skip
          obtain ⟨hpar, rfl, rfl, rfl, rfl⟩ := HT'
          have hp2 : (t : Int).tmod 2 = 1 := by rw [Int.tmod_eq_emod_of_nonneg (by omega)]; omega
          have HPAR := Lib.hid hpar
          clear hpar
          subst hcz
          have hx0 : x = a := by rw [← hx]; simp
          subst hx0
          clear HQ7 hc0
          have hdz : (d == 0) = false := by simp; omega
          go_wp2
          refine wp_loop_rounds 3 ?_
          iterate 3
            rw [rounds_succ]
            go_wp2
            try (go_quiet (fail))
            try go_wp2
          go_region
          go_wp2
          go_region
          go_upto_region 15 with fail
          refine (fun (K : ∀ wx, RS w wx (.slice ad done.length cap) done d 0 y x → Code.wp _ _ _ _ wx) => K _ (RS.bot I _ _ _)) ?_
          intro wx IW
          clear I c0' c1' c2' c3' f0 f1 f2 f3
          have hzx := IW.2.1
          go_wp2_with (at_builtin; refine app64 rfl _ _ rfl (w.heap.size + 1) wx (.slice ad done.length cap) done q rfl IW.2.2.1 wx.heap.size rfl rfl (by omega) hzx ?_; intro v' w1 hG1 hb1)
          go_roundw
          case rel => exact ⟨t + 1, done ++ [q], k, d, 0, y, x, d, 0, y, x, by go_num, hFk, Lib.hid (by rw [HEQ.out, H1.out]; simp), H2, H3, by have := HF.out; simp; omega, Lib.hid (.inl ⟨by have := HPAR.out; omega, rfl, rfl, rfl, rfl⟩), IW.1.trans (hb1.mono (by omega)), Nat.le_trans hzx hb1.size, hG1, IW.2.2.2.low hb1 (by omega)⟩
          case measure => rw [hG1.len]; have := HF.out; simp [lenOf]; omega
        · skip
          obtain ⟨hpar, rfl, rfl, rfl, rfl⟩ := HT'
          have hp2 : (t : Int).tmod 2 = 1 := by rw [Int.tmod_eq_emod_of_nonneg (by omega)]; omega
          have HPAR := Lib.hid hpar
          clear hpar
          have hcp : 0 < c := by omega
          have hcz' : (c == 0) = false := by simp; omega
          obtain ⟨qa, hqa⟩ : ∃ qa, a.tdiv c = qa := ⟨_, rfl⟩
          have hqa' : q ≤ qa := by have := HQ7.out; rw [← hqa, Int.tdiv_eq_ediv_of_nonneg ha0]; omega
          have hqa2 : qa ≤ 1000000000 := by have := Int.ediv_le_self c ha0; rw [← hqa, Int.tdiv_eq_ediv_of_nonneg ha0]; omega
          clear HQ7
          have hdz : (d == 0) = false := by simp; omega
          go_wp2
          refine wp_loop_rounds 3 ?_
          iterate 3
            rw [rounds_succ]
            go_wp2
            try (go_quiet (fail))
            try go_wp2
          go_region
          go_wp2
          go_region
          go_upto_region 15 with fail
          refine (fun (K : ∀ wx, RS w wx (.slice ad done.length cap) done d c y x → Code.wp _ _ _ _ wx) => K _ (RS.bot I _ _ _)) ?_
          intro wx IW
          clear I c0' c1' c2' c3' f0 f1 f2 f3
          have hzx := IW.2.1
          go_wp2_with (at_builtin; refine app64 rfl _ _ rfl (w.heap.size + 1) wx (.slice ad done.length cap) done q rfl IW.2.2.1 wx.heap.size rfl rfl (by omega) hzx ?_; intro v' w1 hG1 hb1)
          go_roundw
          case rel => exact ⟨t + 1, done ++ [q], k, d, c, y, x, d, c, y, x, by go_num, hFk, Lib.hid (by rw [HEQ.out, H1.out]; simp), H2, H3, by have := HF.out; simp; omega, Lib.hid (.inl ⟨by have := HPAR.out; omega, rfl, rfl, rfl, rfl⟩), IW.1.trans (hb1.mono (by omega)), Nat.le_trans hzx hb1.size, hG1, IW.2.2.2.low hb1 (by omega)⟩
          case measure => rw [hG1.len]; have := HF.out; simp [lenOf]; omega
end Go.Proofs.YtpglcpolbhlekaaDoor
