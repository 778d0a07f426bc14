/- impl.ChainOf: contract. -/
import Derived.Test.YtfchfakkbdfajaaDoorChS
import Derived.Test.YtfchfakkbdfajaaDoorRunI
import Derived.Test.YtfchfakkbdfajaaDoorInv
import Derived.Test.YtfchfakkbdfajaaDoorRet
import Derived.Test.YtfchfakkbdfajaaDoorMxS
import Derived.Test.YtfchfakkbdfajaaDoorJump
namespace Go.Proofs.YtfchfakkbdfajaaDoor
open Go.ChangeShapes Go.WideShapes Go.ChangeAt Go.RowKit

theorem implChain_no (a b c d : Int) (h : isM a b c d = false) (w : World) :
    Calls Tryd.prog 44 #[(.agg #[.int .i64 a, .int .i64 b, .int .i64 c, .int .i64 d])] w (Ret3S 0 [] 1 w) := by
  have H := Lib.hid h
  clear h
  go_enter Tryd.func44, Tryd.ntmps44
  go_wp2
  go_step3
  go_wp2_with fail
  refine (implIs_is false _ _ _ _ _ H.out).mono ?_
  rintro e w1 ⟨rfl, hb1⟩
  go_wp2
  rw [Exit.noGoto_ret]
  go_ret3
  exact ⟨_, rfl, Sl.nil _ _ _ (Nat.le_refl _), by repeat (first | with_reducible exact own_refl _ | with_reducible assumption | with_reducible apply own_alloc | with_reducible apply own_drewN | with_reducible apply own_drew | ((with_reducible refine own_setCell ?_ ?_ _); rotate_left; focus (first | (simp; done) | (simp; omega))) | (with_reducible (refine own_trans ?_ (by assumption))))⟩

theorem mul_ts (q : Int) (hq : Ent q) (w : World) : Calls Tryd.prog 73 #[(.agg #[.int .i64 1, .int .i64 q, .int .i64 0, .int .i64 1]), (.agg #[.int .i64 0, .int .i64 (-1), .int .i64 1, .int .i64 0])] w fun r w' => r = .returned (.agg #[.int .i64 q, .int .i64 (-1), .int .i64 1, .int .i64 0]) ∧ Below w.heap.size w w' := by
  have h := multiply_ent 1 q 0 1 0 (-1) 1 0 (by unfold Ent; omega) hq (by unfold Ent; omega) (by unfold Ent; omega) (by unfold Ent; omega) (by unfold Ent; omega) (by unfold Ent; omega) (by unfold Ent; omega) w
  have e1 : 1 * 0 + q * 1 = q := by grind
  have e2 : 1 * -1 + q * 0 = -1 := by grind
  rwa [e1, e2, show (0 * 0 + 1 * 1 : Int) = 1 from rfl, show (0 * -1 + 1 * 0 : Int) = 0 from rfl] at h
theorem inv_ts (q : Int) (w : World) : Calls Tryd.prog 57 #[(.agg #[.int .i64 q, .int .i64 (-1), .int .i64 1, .int .i64 0])] w fun r w' => r = .returned (.agg #[.int .i64 0, .int .i64 1, .int .i64 (-1), .int .i64 q]) ∧ Below w.heap.size w w' := implInverse_ent q (-1) 1 0 (by unfold Ent; omega) (by unfold Ent; omega) w
theorem mul_next (a b c d q x y : Int) (hx : q * c - a = x) (hy : q * d - b = y) (hq : Ent q) (ha : Ent a) (hb : Ent b) (hc : Ent c) (hd : Ent d) (w : World) :
    Calls Tryd.prog 73 #[(.agg #[.int .i64 0, .int .i64 1, .int .i64 (-1), .int .i64 q]), (.agg #[.int .i64 a, .int .i64 b, .int .i64 c, .int .i64 d])] w fun r w' => r = .returned (.agg #[.int .i64 c, .int .i64 d, .int .i64 x, .int .i64 y]) ∧ Below w.heap.size w w' := by
  subst hx hy
  have h := multiply_ent 0 1 (-1) q a b c d (by unfold Ent; omega) (by unfold Ent; omega) (by unfold Ent; omega) hq ha hb hc hd w
  have e1 : 0 * a + 1 * c = c := by grind
  have e2 : 0 * b + 1 * d = d := by grind
  have e3 : -1 * a + q * c = q * c - a := by grind
  have e4 : -1 * b + q * d = q * d - b := by grind
  rwa [e1, e2, e3, e4] at h

/-- What the machine's statements keep. -/
def RQ (w wr : World) (v : Value) (xs : List Int) (e f g h : Int) : Prop := RS w wr v xs e f g h ∧ MxS wr
theorem RQ.step {w wr w2 : World} {v : Value} {xs : List Int} {e f g h : Int} (hr : RQ w wr v xs e f g h) (hb : Below wr.heap.size wr w2) : RQ w w2 v xs e f g h := ⟨hr.1.step hb, Rd.below hr.2 hb⟩
theorem RQ.drew {w wr : World} {v : Value} {xs : List Int} {e f g h : Int} (hr : RQ w wr v xs e f g h) : RQ w wr.drew v xs e f g h := ⟨hr.1.drew, hr.2⟩

theorem ret_first3 {a b k : Int} {v : Value} (h : a = b) : Ending.returned (.tuple #[(.int .i64 a), v, (.int .i64 k)]) = Ending.returned (.tuple #[(.int .i64 b), v, (.int .i64 k)]) := by rw [h]
theorem rd4 {w : World} {g : Nat} {x0 x1 x2 x3 : Value} (h : Rd w g [x0, x1, x2, x3]) : w.cell? ⟨g, 0, none⟩ = some x0 ∧ w.cell? ⟨g, 1, none⟩ = some x1 ∧ w.cell? ⟨g, 2, none⟩ = some x2 ∧ w.cell? ⟨g, 3, none⟩ = some x3 := h.four.2
/-- What holds at each jump to the machine's label. -/
def JJ (F : Nat) (a0 b0 c0 d0 : Int) (w : World) (act : Act) (wx : World) : Prop :=
  ∃ (done : List Int) (f : Nat) (a b c d : Int) (sv v6 v7 v8 v9 v10 v11 v12 v13 v14 v15 v16 v17 v18 v19 v20 v21 v22 v23 v24 v25 v26 v27 v28 v29 v30 v31 v32 v33 v34 v35 v36 v37 v38 v39 v40 v41 v42 v43 v44 v45 v46 : Value), act = { tmps := #[(.agg #[.int .i64 a0, .int .i64 b0, .int .i64 c0, .int .i64 d0]), .pointer (some ⟨w.heap.size, 0, none⟩), (.int .i64 0), .slice none 0 0, (.int .i64 0), sv, v6, v7, v8, v9, v10, v11, v12, v13, v14, v15, v16, v17, v18, v19, v20, v21, v22, v23, v24, v25, v26, v27, v28, v29, v30, v31, v32, v33, v34, v35, v36, v37, v38, v39, v40, v41, v42, v43, v44, v45, v46], defers := [] } ∧
    chS F a0 b0 c0 d0 = chS f a b c d ∧ chL F a0 b0 c0 d0 = done ++ chL f a b c d ∧ Det a b c d ∧ c.natAbs ≤ f ∧ f + done.length ≤ F ∧ RQ w wx sv done a b c d
def mu (F : Nat) (act : Act) : Nat := F - lenOf (act.tmps.getD 5 undef)

set_option maxRecDepth 1000000 in
set_option maxHeartbeats 8000000 in
theorem implChain_gr (F : Nat) (a0 b0 c0 d0 : Int) (h : isM a0 b0 c0 d0 = true) (hf : c0.natAbs ≤ F) (hF : F ≤ 1000000000) (w : World) (hid : MxS w) :
    Calls Tryd.prog 44 #[(.agg #[.int .i64 a0, .int .i64 b0, .int .i64 c0, .int .i64 d0])] w fun e w' => ∃ v, e = .returned (.tuple #[(.int .i64 (chS F a0 b0 c0 d0)), v, (.int .i64 0)]) ∧ Gr w' (w.heap.size + 1) v (chL F a0 b0 c0 d0) ∧ Below w.heap.size w w' := by
  have H := Lib.hid h
  have HD0 := Lib.hid (show Det a0 b0 c0 d0 from isM_ent h)
  clear h
  go_enter Tryd.func44, Tryd.ntmps44
  go_wp2
  refine scope_jumps 0 (JJ F a0 b0 c0 d0 w) (fun act _ => mu F act) rfl ?pass ?first
  case first =>
    intro pass
    go_wp2_with fail
    refine (implIs_is true _ _ _ _ _ H.out).mono ?_
    rintro e w1 ⟨rfl, hb1⟩
    have B1 : Box w1 w.heap.size [.int .i64 a0, .int .i64 b0, .int .i64 c0, .int .i64 d0] := Box.below (Box.new _ _ _) hb1
    have T1 : Below w.heap.size w w1 := by repeat (first | with_reducible exact own_refl _ | with_reducible assumption | with_reducible apply own_alloc | with_reducible apply own_drewN | with_reducible apply own_drew | ((with_reducible refine own_setCell ?_ ?_ _); rotate_left; focus (first | (simp; done) | (simp; omega))) | (with_reducible (refine own_trans ?_ (by assumption))))
    go_wp2
    go_step3
    rename_i hK
    exact hK _ _ (pass _ _ ⟨[], F, a0, b0, c0, d0, _, _, _, _, _, _, _, _, _, _, _, _, _, _, _, _, _, _, _, _, _, _, _, _, _, _, _, _, _, _, _, _, _, _, _, _, _, _, _, _, _, _, rfl, rfl, rfl, HD0.out, hf, by first | (simp; done) | exact Nat.le_refl _, ⟨⟨T1, Nat.succ_le_of_lt B1.1, Gr.nil _ _, B1⟩, Rd.below hid T1⟩⟩)
  case pass =>
    rintro act wx ⟨done, f, a, b, c, d, sv, v6, v7, v8, v9, v10, v11, v12, v13, v14, v15, v16, v17, v18, v19, v20, v21, v22, v23, v24, v25, v26, v27, v28, v29, v30, v31, v32, v33, v34, v35, v36, v37, v38, v39, v40, v41, v42, v43, v44, v45, v46, rfl, hS, hL, hD, hcf, hlen, I⟩
    have HS := Lib.hid hS
    have HL := Lib.hid hL
    have HD := Lib.hid hD
    have HF := Lib.hid hcf
    clear hS hL hD hcf
    obtain ⟨ad, cap, hv⟩ := I.1.2.2.1.shape
    subst hv
    obtain ⟨c0', c1', c2', c3', f0', f1', f2', f3'⟩ := RS.four I.1
    by_cases hc : c = 0
    · subst hc
      obtain ⟨hu, he⟩ := det_last HD.out
      obtain ⟨z, hz1⟩ : ∃ z, a * b = z := ⟨_, rfl⟩
      rw [hz1] at he
      have HZ := Lib.hid hz1
      have heb : -1000000000 ≤ z ∧ z ≤ 1000000000 := he
      go_upto_region 4 with fail
      go_quiet (fail)
      go_wp2_with (at_builtin; refine app64 rfl _ _ rfl (w.heap.size + 1) _ (.slice ad done.length cap) done z rfl I.1.2.2.1 _ rfl rfl (by omega) I.1.2.1 ?_; intro v' w1 hG1 hb1)
      have hT1 : Below w.heap.size w w1 := by first | exact I.1.1.trans (hb1.mono (Nat.le_succ _)) | exact (below_drewN' I.1.1 _).trans (hb1.mono (Nat.le_succ _))
      obtain ⟨ad', cap', hv'⟩ := hG1.shape
      subst hv'
      simp only [Exit.jump]
      go_ret3
      refine ⟨_, ret_first3 (by rw [HS.out]; exact ch_end.1.symm), ?_, hT1⟩
      rw [HL.out, ch_end.2, HZ.out]
      exact hG1
    · obtain ⟨ea, eb, ec, ed, _⟩ := HD.out
      obtain ⟨k, q, x, y, hfk, hq, hx, hy, eq, ex, ey, H1, H2, H3, H4⟩ := ch_round HD.out HF.out hc
      have HQ := Lib.hid hq
      have HID := Lib.hid hid
      have HK := Lib.hid hfk
      have HX := Lib.hid hx
      have HY := Lib.hid hy
      have HE := Lib.hid (show Ent q ∧ Ent a ∧ Ent b ∧ Ent c ∧ Ent d from ⟨eq, ea, eb, ec, ed⟩)
      unfold Ent at ea eb ec ed eq ex ey
      have hc' : (c == 0) = false := by simpa using hc
      have s1 : Sm (2 * a + c) := by unfold Sm; omega
      have s2 : Sm (2 * c) := by unfold Sm; omega
      have S3 := Lib.hid (show 2 * c ≠ 0 by omega)
      clear hq hfk hc hx hy
      go_upto_region 4 with fail
      go_quiet (fail)
      go_wp2_with fail
      refine (implFl_is q (2 * a + c) (2 * c) HQ.out s1 s2 S3.out _).mono ?_
      rintro e w2 ⟨rfl, rfl⟩
      go_wp2_with (at_builtin; refine app64 rfl _ _ rfl (w.heap.size + 1) _ (.slice ad done.length cap) done q rfl I.1.2.2.1 _ rfl rfl (by omega) I.1.2.1 ?_; intro v' w1 hG1 hb1)
      have T1 : Below w.heap.size w w1 := by first | exact I.1.1.trans (hb1.mono (Nat.le_succ _)) | exact (below_drewN' I.1.1 _).trans (hb1.mono (Nat.le_succ _))
      have I : RQ w w1 v' (done ++ [q]) a b c d := ⟨⟨T1, Nat.le_trans I.1.2.1 hb1.size, hG1, by first | exact I.1.2.2.2.low hb1 (Nat.lt_succ_self _) | exact (I.1.2.2.2.drewN _).low hb1 (Nat.lt_succ_self _)⟩, Rd.below hid T1⟩
      clear T1 hb1 hG1 c0' c1' c2' c3' f0' f1' f2' f3'
      obtain ⟨c0', c1', c2', c3', f0', f1', f2', f3'⟩ := RS.four I.1
      obtain ⟨_, t0', t1', t2', t3'⟩ := Rd.four I.2
      clear s1 s2 ea eb ec ed eq ex ey hc' H hid
      go_upto_region 8 with fail
      have ID := RQ.drew I
      refine wp_region_held_drew (S := fun w' => w'.cell? ⟨0, 0, none⟩ = some (.int .i64 0) ∧ w'.cell? ⟨0, 1, none⟩ = some (.int .i64 (-1)) ∧ w'.cell? ⟨0, 2, none⟩ = some (.int .i64 1) ∧ w'.cell? ⟨0, 3, none⟩ = some (.int .i64 0)) (by kernel_rfl) ⟨t0', t1', t2', t3'⟩ (fun hHeld => ?_)
      clear I
      have I := ID
      clear ID
      refine wpAnyH_take (i := 0) (oi := _) (v := (.int .i64 q)) rfl (by kernel_rfl) (by kernel_rfl) (by kernel_rfl) (fun _ _ _ h => h) (Or.inl ⟨by rfl, fun w hSw => by obtain ⟨_, _, _, _⟩ := hSw; go_simp⟩) (by assumption) ?_
      simp only [Act.put, List.setIfInBounds_toArray]
      refine wpAnyH_take (i := 2) (oi := _) (v := (.agg #[.int .i64 0, .int .i64 (-1), .int .i64 1, .int .i64 0])) rfl (by kernel_rfl) (by kernel_rfl) (by kernel_rfl) (fun _ _ _ h => h) (Or.inl ⟨by rfl, fun w hSw => by obtain ⟨_, _, _, _⟩ := hSw; go_simp⟩) (by assumption) ?_
      simp only [Act.put]
      refine wpAnyH_ready (rs := [1, 5]) (by kernel_rfl) (by simp) ?_
      refine AllReadyH.cons (o := _) rfl (fun K hK => ?_) ?_
      · go_simp
        refine (powerOfT_any _ _).mono ?_
        rintro e w2 ⟨rfl, hb2⟩
        clear c0' c1' c2' c3' f0' f1' f2' f3' t0' t1' t2' t3'
        have I' := RQ.step I hb2
        clear hb2 I
        have I := I'
        clear I'
        obtain ⟨c0', c1', c2', c3', f0', f1', f2', f3'⟩ := RS.four I.1
        obtain ⟨_, t0', t1', t2', t3'⟩ := Rd.four I.2
        refine hK.out _ _ ⟨t0', t1', t2', t3'⟩ (fun hHeld => ?_)
        clear hK K
        try simp only [Act.put, List.setIfInBounds_toArray, List.set_cons_zero, List.set_cons_succ]
        refine wpAnyH_ready (rs := [3, 5]) (by kernel_rfl) (by simp) ?_
        refine AllReadyH.cons (o := _) rfl (fun K hK => ?_) ?_
        · go_simp
          refine (mul_ts q HE.out.1 _).mono ?_
          rintro e w2 ⟨rfl, hb2⟩
          clear c0' c1' c2' c3' f0' f1' f2' f3' t0' t1' t2' t3'
          have I' := RQ.step I hb2
          clear hb2 I
          have I := I'
          clear I'
          obtain ⟨c0', c1', c2', c3', f0', f1', f2', f3'⟩ := RS.four I.1
          obtain ⟨_, t0', t1', t2', t3'⟩ := Rd.four I.2
          refine hK.out _ _ ⟨t0', t1', t2', t3'⟩ (fun hHeld => ?_)
          clear hK K
          try simp only [Act.put, List.setIfInBounds_toArray, List.set_cons_zero, List.set_cons_succ]
          refine wpAnyH_ready (rs := [4, 5]) (by kernel_rfl) (by simp) ?_
          refine AllReadyH.cons (o := _) rfl (fun K hK => ?_) ?_
          · go_simp
            refine (inv_ts q _).mono ?_
            rintro e w2 ⟨rfl, hb2⟩
            clear c0' c1' c2' c3' f0' f1' f2' f3' t0' t1' t2' t3'
            have I' := RQ.step I hb2
            clear hb2 I
            have I := I'
            clear I'
            obtain ⟨c0', c1', c2', c3', f0', f1', f2', f3'⟩ := RS.four I.1
            obtain ⟨_, t0', t1', t2', t3'⟩ := Rd.four I.2
            refine hK.out _ _ ⟨t0', t1', t2', t3'⟩ (fun hHeld => ?_)
            clear hK K
            try simp only [Act.put, List.setIfInBounds_toArray, List.set_cons_zero, List.set_cons_succ]
            refine wpAnyH_ready (rs := [5]) (by kernel_rfl) (by simp) ?_
            refine AllReadyH.cons (o := _) rfl (fun K hK => ?_) ?_
            · go_simp
              refine hK.out _ _ ⟨t0', t1', t2', t3'⟩ (fun hHeld => ?_)
              clear hK K
              try simp only [Act.put, List.setIfInBounds_toArray, List.set_cons_zero, List.set_cons_succ]
              refine wpAnyH_ready (rs := [6]) (by kernel_rfl) (by simp) ?_
              refine AllReadyH.cons (o := _) rfl (fun K hK => ?_) ?_
              · go_simp
                refine (mul_next a b c d q x y HX.out HY.out HE.out.1 HE.out.2.1 HE.out.2.2.1 HE.out.2.2.2.1 HE.out.2.2.2.2 _).mono ?_
                rintro e w2 ⟨rfl, hb2⟩
                clear c0' c1' c2' c3' f0' f1' f2' f3' t0' t1' t2' t3'
                have I' := RQ.step I hb2
                clear hb2 I
                have I := I'
                clear I'
                obtain ⟨c0', c1', c2', c3', f0', f1', f2', f3'⟩ := RS.four I.1
                obtain ⟨_, t0', t1', t2', t3'⟩ := Rd.four I.2
                refine hK.out _ _ ⟨t0', t1', t2', t3'⟩ (fun hHeld => ?_)
                clear hK K
                try simp only [Act.put, List.setIfInBounds_toArray, List.set_cons_zero, List.set_cons_succ]
                refine wpAnyH_ready (rs := [7]) (by kernel_rfl) (by simp) ?_
                refine AllReadyH.cons (o := _) rfl (fun K hK => ?_) ?_
                · go_simp
                  refine hK.out _ _ (rd4 (Rd.below HID.out (by have hI1 := I.1.1; repeat (first | with_reducible exact own_refl _ | with_reducible assumption | with_reducible apply own_alloc | with_reducible apply own_drewN | with_reducible apply own_drew | ((with_reducible refine own_setCell ?_ ?_ _); rotate_left; focus (first | (simp; done) | (simp; omega))) | (with_reducible (refine own_trans ?_ (by assumption))))))) (fun hHeld => ?_)
                  clear hK K
                  try simp only [Act.put, List.setIfInBounds_toArray, List.set_cons_zero, List.set_cons_succ]
                  refine wpAnyH_done (by kernel_rfl) ?_ _
                  go_wp2
                  go_step3
                  refine ⟨rfl, ⟨done ++ [q], k, c, d, x, y, v', _, _, _, _, _, _, _, _, _, _, _, _, _, _, _, _, _, _, _, _, _, _, _, _, _, _, _, _, _, _, _, _, _, _, _, _, _, _, _, _, _, rfl, by rw [HS.out, H1.out], by rw [HL.out, H2.out]; simp, H3.out, H4.out, by have := HK.out; simp; omega, ⟨⟨by have := I.1.1; repeat (first | with_reducible exact own_refl _ | with_reducible assumption | with_reducible apply own_alloc | with_reducible apply own_drewN | with_reducible apply own_drew | ((with_reducible refine own_setCell ?_ ?_ _); rotate_left; focus (first | (simp; done) | (simp; omega))) | (with_reducible (refine own_trans ?_ (by assumption)))), by simpa [World.setCell] using I.1.2.1, (((I.1.2.2.1.set (Nat.lt_succ_self _) _).set (Nat.lt_succ_self _) _).set (Nat.lt_succ_self _) _).set (Nat.lt_succ_self _) _, I.1.2.2.2.put4 _ _ _ _⟩, Rd.below HID.out (by have := I.1.1; repeat (first | with_reducible exact own_refl _ | with_reducible assumption | with_reducible apply own_alloc | with_reducible apply own_drewN | with_reducible apply own_drew | ((with_reducible refine own_setCell ?_ ?_ _); rotate_left; focus (first | (simp; done) | (simp; omega))) | (with_reducible (refine own_trans ?_ (by assumption)))))⟩⟩, ?_⟩
                  have hl := I.1.2.2.1.len
                  have := HK.out
                  simp [mu, lenOf] at hl ⊢
                  omega
                exact AllReadyH.nil
              exact AllReadyH.nil
            exact AllReadyH.nil
          refine AllReadyH.cons (o := _) rfl (fun K hK => ?_) ?_
          · go_simp
            refine hK.out _ _ ⟨t0', t1', t2', t3'⟩ (fun hHeld => ?_)
            clear hK K
            try simp only [Act.put, List.setIfInBounds_toArray, List.set_cons_zero, List.set_cons_succ]
            refine wpAnyH_ready (rs := [4]) (by kernel_rfl) (by simp) ?_
            refine AllReadyH.cons (o := _) rfl (fun K hK => ?_) ?_
            · go_simp
              refine (inv_ts q _).mono ?_
              rintro e w2 ⟨rfl, hb2⟩
              clear c0' c1' c2' c3' f0' f1' f2' f3' t0' t1' t2' t3'
              have I' := RQ.step I hb2
              clear hb2 I
              have I := I'
              clear I'
              obtain ⟨c0', c1', c2', c3', f0', f1', f2', f3'⟩ := RS.four I.1
              obtain ⟨_, t0', t1', t2', t3'⟩ := Rd.four I.2
              refine hK.out _ _ ⟨t0', t1', t2', t3'⟩ (fun hHeld => ?_)
              clear hK K
              try simp only [Act.put, List.setIfInBounds_toArray, List.set_cons_zero, List.set_cons_succ]
              refine wpAnyH_ready (rs := [6]) (by kernel_rfl) (by simp) ?_
              refine AllReadyH.cons (o := _) rfl (fun K hK => ?_) ?_
              · go_simp
                refine (mul_next a b c d q x y HX.out HY.out HE.out.1 HE.out.2.1 HE.out.2.2.1 HE.out.2.2.2.1 HE.out.2.2.2.2 _).mono ?_
                rintro e w2 ⟨rfl, hb2⟩
                clear c0' c1' c2' c3' f0' f1' f2' f3' t0' t1' t2' t3'
                have I' := RQ.step I hb2
                clear hb2 I
                have I := I'
                clear I'
                obtain ⟨c0', c1', c2', c3', f0', f1', f2', f3'⟩ := RS.four I.1
                obtain ⟨_, t0', t1', t2', t3'⟩ := Rd.four I.2
                refine hK.out _ _ ⟨t0', t1', t2', t3'⟩ (fun hHeld => ?_)
                clear hK K
                try simp only [Act.put, List.setIfInBounds_toArray, List.set_cons_zero, List.set_cons_succ]
                refine wpAnyH_ready (rs := [7]) (by kernel_rfl) (by simp) ?_
                refine AllReadyH.cons (o := _) rfl (fun K hK => ?_) ?_
                · go_simp
                  refine hK.out _ _ (rd4 (Rd.below HID.out (by have hI1 := I.1.1; repeat (first | with_reducible exact own_refl _ | with_reducible assumption | with_reducible apply own_alloc | with_reducible apply own_drewN | with_reducible apply own_drew | ((with_reducible refine own_setCell ?_ ?_ _); rotate_left; focus (first | (simp; done) | (simp; omega))) | (with_reducible (refine own_trans ?_ (by assumption))))))) (fun hHeld => ?_)
                  clear hK K
                  try simp only [Act.put, List.setIfInBounds_toArray, List.set_cons_zero, List.set_cons_succ]
                  refine wpAnyH_done (by kernel_rfl) ?_ _
                  go_wp2
                  go_step3
                  refine ⟨rfl, ⟨done ++ [q], k, c, d, x, y, v', _, _, _, _, _, _, _, _, _, _, _, _, _, _, _, _, _, _, _, _, _, _, _, _, _, _, _, _, _, _, _, _, _, _, _, _, _, _, _, _, _, rfl, by rw [HS.out, H1.out], by rw [HL.out, H2.out]; simp, H3.out, H4.out, by have := HK.out; simp; omega, ⟨⟨by have := I.1.1; repeat (first | with_reducible exact own_refl _ | with_reducible assumption | with_reducible apply own_alloc | with_reducible apply own_drewN | with_reducible apply own_drew | ((with_reducible refine own_setCell ?_ ?_ _); rotate_left; focus (first | (simp; done) | (simp; omega))) | (with_reducible (refine own_trans ?_ (by assumption)))), by simpa [World.setCell] using I.1.2.1, (((I.1.2.2.1.set (Nat.lt_succ_self _) _).set (Nat.lt_succ_self _) _).set (Nat.lt_succ_self _) _).set (Nat.lt_succ_self _) _, I.1.2.2.2.put4 _ _ _ _⟩, Rd.below HID.out (by have := I.1.1; repeat (first | with_reducible exact own_refl _ | with_reducible assumption | with_reducible apply own_alloc | with_reducible apply own_drewN | with_reducible apply own_drew | ((with_reducible refine own_setCell ?_ ?_ _); rotate_left; focus (first | (simp; done) | (simp; omega))) | (with_reducible (refine own_trans ?_ (by assumption)))))⟩⟩, ?_⟩
                  have hl := I.1.2.2.1.len
                  have := HK.out
                  simp [mu, lenOf] at hl ⊢
                  omega
                exact AllReadyH.nil
              exact AllReadyH.nil
            exact AllReadyH.nil
          exact AllReadyH.nil
        refine AllReadyH.cons (o := _) rfl (fun K hK => ?_) ?_
        · go_simp
          refine hK.out _ _ ⟨t0', t1', t2', t3'⟩ (fun hHeld => ?_)
          clear hK K
          try simp only [Act.put, List.setIfInBounds_toArray, List.set_cons_zero, List.set_cons_succ]
          refine wpAnyH_ready (rs := [3]) (by kernel_rfl) (by simp) ?_
          refine AllReadyH.cons (o := _) rfl (fun K hK => ?_) ?_
          · go_simp
            refine (mul_ts q HE.out.1 _).mono ?_
            rintro e w2 ⟨rfl, hb2⟩
            clear c0' c1' c2' c3' f0' f1' f2' f3' t0' t1' t2' t3'
            have I' := RQ.step I hb2
            clear hb2 I
            have I := I'
            clear I'
            obtain ⟨c0', c1', c2', c3', f0', f1', f2', f3'⟩ := RS.four I.1
            obtain ⟨_, t0', t1', t2', t3'⟩ := Rd.four I.2
            refine hK.out _ _ ⟨t0', t1', t2', t3'⟩ (fun hHeld => ?_)
            clear hK K
            try simp only [Act.put, List.setIfInBounds_toArray, List.set_cons_zero, List.set_cons_succ]
            refine wpAnyH_ready (rs := [4]) (by kernel_rfl) (by simp) ?_
            refine AllReadyH.cons (o := _) rfl (fun K hK => ?_) ?_
            · go_simp
              refine (inv_ts q _).mono ?_
              rintro e w2 ⟨rfl, hb2⟩
              clear c0' c1' c2' c3' f0' f1' f2' f3' t0' t1' t2' t3'
              have I' := RQ.step I hb2
              clear hb2 I
              have I := I'
              clear I'
              obtain ⟨c0', c1', c2', c3', f0', f1', f2', f3'⟩ := RS.four I.1
              obtain ⟨_, t0', t1', t2', t3'⟩ := Rd.four I.2
              refine hK.out _ _ ⟨t0', t1', t2', t3'⟩ (fun hHeld => ?_)
              clear hK K
              try simp only [Act.put, List.setIfInBounds_toArray, List.set_cons_zero, List.set_cons_succ]
              refine wpAnyH_ready (rs := [6]) (by kernel_rfl) (by simp) ?_
              refine AllReadyH.cons (o := _) rfl (fun K hK => ?_) ?_
              · go_simp
                refine (mul_next a b c d q x y HX.out HY.out HE.out.1 HE.out.2.1 HE.out.2.2.1 HE.out.2.2.2.1 HE.out.2.2.2.2 _).mono ?_
                rintro e w2 ⟨rfl, hb2⟩
                clear c0' c1' c2' c3' f0' f1' f2' f3' t0' t1' t2' t3'
                have I' := RQ.step I hb2
                clear hb2 I
                have I := I'
                clear I'
                obtain ⟨c0', c1', c2', c3', f0', f1', f2', f3'⟩ := RS.four I.1
                obtain ⟨_, t0', t1', t2', t3'⟩ := Rd.four I.2
                refine hK.out _ _ ⟨t0', t1', t2', t3'⟩ (fun hHeld => ?_)
                clear hK K
                try simp only [Act.put, List.setIfInBounds_toArray, List.set_cons_zero, List.set_cons_succ]
                refine wpAnyH_ready (rs := [7]) (by kernel_rfl) (by simp) ?_
                refine AllReadyH.cons (o := _) rfl (fun K hK => ?_) ?_
                · go_simp
                  refine hK.out _ _ (rd4 (Rd.below HID.out (by have hI1 := I.1.1; repeat (first | with_reducible exact own_refl _ | with_reducible assumption | with_reducible apply own_alloc | with_reducible apply own_drewN | with_reducible apply own_drew | ((with_reducible refine own_setCell ?_ ?_ _); rotate_left; focus (first | (simp; done) | (simp; omega))) | (with_reducible (refine own_trans ?_ (by assumption))))))) (fun hHeld => ?_)
                  clear hK K
                  try simp only [Act.put, List.setIfInBounds_toArray, List.set_cons_zero, List.set_cons_succ]
                  refine wpAnyH_done (by kernel_rfl) ?_ _
                  go_wp2
                  go_step3
                  refine ⟨rfl, ⟨done ++ [q], k, c, d, x, y, v', _, _, _, _, _, _, _, _, _, _, _, _, _, _, _, _, _, _, _, _, _, _, _, _, _, _, _, _, _, _, _, _, _, _, _, _, _, _, _, _, _, rfl, by rw [HS.out, H1.out], by rw [HL.out, H2.out]; simp, H3.out, H4.out, by have := HK.out; simp; omega, ⟨⟨by have := I.1.1; repeat (first | with_reducible exact own_refl _ | with_reducible assumption | with_reducible apply own_alloc | with_reducible apply own_drewN | with_reducible apply own_drew | ((with_reducible refine own_setCell ?_ ?_ _); rotate_left; focus (first | (simp; done) | (simp; omega))) | (with_reducible (refine own_trans ?_ (by assumption)))), by simpa [World.setCell] using I.1.2.1, (((I.1.2.2.1.set (Nat.lt_succ_self _) _).set (Nat.lt_succ_self _) _).set (Nat.lt_succ_self _) _).set (Nat.lt_succ_self _) _, I.1.2.2.2.put4 _ _ _ _⟩, Rd.below HID.out (by have := I.1.1; repeat (first | with_reducible exact own_refl _ | with_reducible assumption | with_reducible apply own_alloc | with_reducible apply own_drewN | with_reducible apply own_drew | ((with_reducible refine own_setCell ?_ ?_ _); rotate_left; focus (first | (simp; done) | (simp; omega))) | (with_reducible (refine own_trans ?_ (by assumption)))))⟩⟩, ?_⟩
                  have hl := I.1.2.2.1.len
                  have := HK.out
                  simp [mu, lenOf] at hl ⊢
                  omega
                exact AllReadyH.nil
              exact AllReadyH.nil
            exact AllReadyH.nil
          exact AllReadyH.nil
        exact AllReadyH.nil
      refine AllReadyH.cons (o := _) rfl (fun K hK => ?_) ?_
      · go_simp
        refine hK.out _ _ ⟨t0', t1', t2', t3'⟩ (fun hHeld => ?_)
        clear hK K
        try simp only [Act.put, List.setIfInBounds_toArray, List.set_cons_zero, List.set_cons_succ]
        refine wpAnyH_ready (rs := [1]) (by kernel_rfl) (by simp) ?_
        refine AllReadyH.cons (o := _) rfl (fun K hK => ?_) ?_
        · go_simp
          refine (powerOfT_any _ _).mono ?_
          rintro e w2 ⟨rfl, hb2⟩
          clear c0' c1' c2' c3' f0' f1' f2' f3' t0' t1' t2' t3'
          have I' := RQ.step I hb2
          clear hb2 I
          have I := I'
          clear I'
          obtain ⟨c0', c1', c2', c3', f0', f1', f2', f3'⟩ := RS.four I.1
          obtain ⟨_, t0', t1', t2', t3'⟩ := Rd.four I.2
          refine hK.out _ _ ⟨t0', t1', t2', t3'⟩ (fun hHeld => ?_)
          clear hK K
          try simp only [Act.put, List.setIfInBounds_toArray, List.set_cons_zero, List.set_cons_succ]
          refine wpAnyH_ready (rs := [3]) (by kernel_rfl) (by simp) ?_
          refine AllReadyH.cons (o := _) rfl (fun K hK => ?_) ?_
          · go_simp
            refine (mul_ts q HE.out.1 _).mono ?_
            rintro e w2 ⟨rfl, hb2⟩
            clear c0' c1' c2' c3' f0' f1' f2' f3' t0' t1' t2' t3'
            have I' := RQ.step I hb2
            clear hb2 I
            have I := I'
            clear I'
            obtain ⟨c0', c1', c2', c3', f0', f1', f2', f3'⟩ := RS.four I.1
            obtain ⟨_, t0', t1', t2', t3'⟩ := Rd.four I.2
            refine hK.out _ _ ⟨t0', t1', t2', t3'⟩ (fun hHeld => ?_)
            clear hK K
            try simp only [Act.put, List.setIfInBounds_toArray, List.set_cons_zero, List.set_cons_succ]
            refine wpAnyH_ready (rs := [4]) (by kernel_rfl) (by simp) ?_
            refine AllReadyH.cons (o := _) rfl (fun K hK => ?_) ?_
            · go_simp
              refine (inv_ts q _).mono ?_
              rintro e w2 ⟨rfl, hb2⟩
              clear c0' c1' c2' c3' f0' f1' f2' f3' t0' t1' t2' t3'
              have I' := RQ.step I hb2
              clear hb2 I
              have I := I'
              clear I'
              obtain ⟨c0', c1', c2', c3', f0', f1', f2', f3'⟩ := RS.four I.1
              obtain ⟨_, t0', t1', t2', t3'⟩ := Rd.four I.2
              refine hK.out _ _ ⟨t0', t1', t2', t3'⟩ (fun hHeld => ?_)
              clear hK K
              try simp only [Act.put, List.setIfInBounds_toArray, List.set_cons_zero, List.set_cons_succ]
              refine wpAnyH_ready (rs := [6]) (by kernel_rfl) (by simp) ?_
              refine AllReadyH.cons (o := _) rfl (fun K hK => ?_) ?_
              · go_simp
                refine (mul_next a b c d q x y HX.out HY.out HE.out.1 HE.out.2.1 HE.out.2.2.1 HE.out.2.2.2.1 HE.out.2.2.2.2 _).mono ?_
                rintro e w2 ⟨rfl, hb2⟩
                clear c0' c1' c2' c3' f0' f1' f2' f3' t0' t1' t2' t3'
                have I' := RQ.step I hb2
                clear hb2 I
                have I := I'
                clear I'
                obtain ⟨c0', c1', c2', c3', f0', f1', f2', f3'⟩ := RS.four I.1
                obtain ⟨_, t0', t1', t2', t3'⟩ := Rd.four I.2
                refine hK.out _ _ ⟨t0', t1', t2', t3'⟩ (fun hHeld => ?_)
                clear hK K
                try simp only [Act.put, List.setIfInBounds_toArray, List.set_cons_zero, List.set_cons_succ]
                refine wpAnyH_ready (rs := [7]) (by kernel_rfl) (by simp) ?_
                refine AllReadyH.cons (o := _) rfl (fun K hK => ?_) ?_
                · go_simp
                  refine hK.out _ _ (rd4 (Rd.below HID.out (by have hI1 := I.1.1; repeat (first | with_reducible exact own_refl _ | with_reducible assumption | with_reducible apply own_alloc | with_reducible apply own_drewN | with_reducible apply own_drew | ((with_reducible refine own_setCell ?_ ?_ _); rotate_left; focus (first | (simp; done) | (simp; omega))) | (with_reducible (refine own_trans ?_ (by assumption))))))) (fun hHeld => ?_)
                  clear hK K
                  try simp only [Act.put, List.setIfInBounds_toArray, List.set_cons_zero, List.set_cons_succ]
                  refine wpAnyH_done (by kernel_rfl) ?_ _
                  go_wp2
                  go_step3
                  refine ⟨rfl, ⟨done ++ [q], k, c, d, x, y, v', _, _, _, _, _, _, _, _, _, _, _, _, _, _, _, _, _, _, _, _, _, _, _, _, _, _, _, _, _, _, _, _, _, _, _, _, _, _, _, _, _, rfl, by rw [HS.out, H1.out], by rw [HL.out, H2.out]; simp, H3.out, H4.out, by have := HK.out; simp; omega, ⟨⟨by have := I.1.1; repeat (first | with_reducible exact own_refl _ | with_reducible assumption | with_reducible apply own_alloc | with_reducible apply own_drewN | with_reducible apply own_drew | ((with_reducible refine own_setCell ?_ ?_ _); rotate_left; focus (first | (simp; done) | (simp; omega))) | (with_reducible (refine own_trans ?_ (by assumption)))), by simpa [World.setCell] using I.1.2.1, (((I.1.2.2.1.set (Nat.lt_succ_self _) _).set (Nat.lt_succ_self _) _).set (Nat.lt_succ_self _) _).set (Nat.lt_succ_self _) _, I.1.2.2.2.put4 _ _ _ _⟩, Rd.below HID.out (by have := I.1.1; repeat (first | with_reducible exact own_refl _ | with_reducible assumption | with_reducible apply own_alloc | with_reducible apply own_drewN | with_reducible apply own_drew | ((with_reducible refine own_setCell ?_ ?_ _); rotate_left; focus (first | (simp; done) | (simp; omega))) | (with_reducible (refine own_trans ?_ (by assumption)))))⟩⟩, ?_⟩
                  have hl := I.1.2.2.1.len
                  have := HK.out
                  simp [mu, lenOf] at hl ⊢
                  omega
                exact AllReadyH.nil
              exact AllReadyH.nil
            exact AllReadyH.nil
          exact AllReadyH.nil
        exact AllReadyH.nil
      exact AllReadyH.nil
theorem implChain_yes (F : Nat) (a0 b0 c0 d0 : Int) (h : isM a0 b0 c0 d0 = true) (hf : c0.natAbs ≤ F) (hF : F ≤ 1000000000) (w : World) (hid : MxS w) :
    Calls Tryd.prog 44 #[(.agg #[.int .i64 a0, .int .i64 b0, .int .i64 c0, .int .i64 d0])] w (Ret3S (chS F a0 b0 c0 d0) (chL F a0 b0 c0 d0) 0 w) :=
  (implChain_gr F a0 b0 c0 d0 h hf hF w hid).mono fun _ _ ⟨v, h1, h2, h3⟩ => ⟨v, h1, h2.sl.weak (Nat.le_succ _), h3⟩
end Go.Proofs.YtfchfakkbdfajaaDoor
