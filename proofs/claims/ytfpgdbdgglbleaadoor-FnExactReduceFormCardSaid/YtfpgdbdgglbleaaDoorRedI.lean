/- impl.reduceDefinite: contract. -/
import Derived.Test.YtfpgdbdgglbleaaDoorRedS
import Derived.Test.YtfpgdbdgglbleaaDoorMxS
import Derived.Test.YtfpgdbdgglbleaaDoorRunI
import Derived.Test.YtfpgdbdgglbleaaDoorPA
namespace Go.Proofs.YtfpgdbdgglbleaaDoor
open Go.ChangeShapes Go.WideShapes Go.ChangeAt Go.RowKit

theorem RDI.far4 {w wr : World} {g2 g3 g4 g : Nat} {a b c p q r s : Int} (h : RDI w wr g2 g3 g4 a b c p q r s) (h0 : w.heap.size < g) (h2 : ¬ g2 = g) (h3 : ¬ g3 = g) (h4 : ¬ g4 = g) (y0 y1 y2 y3 : Value) :
    RDI w ((((wr.setCell ⟨g, 0, none⟩ y0).setCell ⟨g, 1, none⟩ y1).setCell ⟨g, 2, none⟩ y2).setCell ⟨g, 3, none⟩ y3) g2 g3 g4 a b c p q r s :=
  have n1 : ¬ w.heap.size = g := by omega
  have n0 : w.heap.size ≤ g := by omega
  ⟨own_setCell (own_setCell (own_setCell (own_setCell h.1 n0 _) n0 _) n0 _) n0 _, (((h.2.1.far n1 _).far n1 _).far n1 _).far n1 _, (((h.2.2.1.far h2 _).far h2 _).far h2 _).far h2 _, (((h.2.2.2.1.far h3 _).far h3 _).far h3 _).far h3 _, (((h.2.2.2.2.far h4 _).far h4 _).far h4 _).far h4 _⟩
set_option maxHeartbeats 16000000 in
theorem reduceD_is (a b c : Int) (y : RS3) (ha : FE a) (hb : FE b) (hc : FE c) (hp : 0 < a) (hd : disc a b c < 0) (hy : RS3.To (RS3.start a b c) y) (w : World) (hid : Idn w) (hmx : MxS w) :
    Calls Tryd.prog 24 #[(.agg #[.int .i64 a, .int .i64 b, .int .i64 c])] w fun e w' => e = .returned (.tuple #[(.agg #[.int .i64 y.a, .int .i64 y.b, .int .i64 y.c]), (.agg #[.int .i64 y.p, .int .i64 y.q, .int .i64 y.r, .int .i64 y.s])]) ∧ Below w.heap.size w w' := by
  have HF := Lib.hid (show FE a ∧ FE c ∧ 0 < a ∧ disc a b c < 0 from ⟨ha, hc, hp, hd⟩)
  have HS := Lib.hid (RS3.start_inv ha hb hc hp hd)
  have HY := Lib.hid hy
  clear ha hb hc hp hd hy
  have IA := ((Rd.alloc hid (.cells #[.int .i64 a, .int .i64 b, .int .i64 c] 24)).alloc (.cells #[.int .i64 0, .int .i64 0, .int .i64 0] 24)).alloc (.cells #[.int .i64 0, .int .i64 0, .int .i64 0, .int .i64 0] 27)
  obtain ⟨_, i0, i1, i2, i3⟩ := Rd.four IA
  clear IA
  go_enter Tryd.func24, Tryd.ntmps24
  go_wp2
  obtain ⟨g2, hg2⟩ : ∃ g, w.heap.size + 1 = g := ⟨_, rfl⟩
  obtain ⟨g3, hg3⟩ : ∃ g, g2 + 1 = g := ⟨_, rfl⟩
  obtain ⟨g4, hg4⟩ : ∃ g, g3 + 1 = g := ⟨_, rfl⟩
  have G2 := Lib.hid hg2
  have G3 := Lib.hid hg3
  have G4 := Lib.hid hg4
  have e1 : ¬ (g2 = w.heap.size) := by omega
  have e2 : ¬ (g3 = w.heap.size) := by omega
  have e3 : ¬ (g4 = w.heap.size) := by omega
  have e4 : ¬ (g3 = g2) := by omega
  have e5 : ¬ (g4 = g2) := by omega
  have e6 : ¬ (g4 = g3) := by omega
  have e1' : ¬ (w.heap.size = g2) := by omega
  have e2' : ¬ (w.heap.size = g3) := by omega
  have e3' : ¬ (w.heap.size = g4) := by omega
  have e4' : ¬ (g2 = g3) := by omega
  have e5' : ¬ (g2 = g4) := by omega
  have e6' : ¬ (g3 = g4) := by omega
  have l2 : w.heap.size ≤ g2 := by omega
  have l3 : w.heap.size ≤ g3 := by omega
  have l4 : w.heap.size ≤ g4 := by omega
  simp only [hg2, hg3, hg4]
  clear hg2 hg3 hg4
  go_loopw [11] (fun _ wr => ∃ x : RS3, Hid (RS3.Inv a b c x) ∧ Hid (RS3.To x y) ∧ RDI w wr g2 g3 g4 x.a x.b x.c x.p x.q x.r x.s) (fun _ wr => muW wr w.heap.size)
  case atStart =>
    refine ⟨RS3.start a b c, HS, HY, by repeat (first | with_reducible exact own_refl _ | with_reducible assumption | with_reducible apply own_alloc | with_reducible apply own_drewN | with_reducible apply own_drew | ((with_reducible refine own_setCell ?_ ?_ _); rotate_left; focus (first | (simp; done) | (simp; omega))) | (with_reducible (refine own_trans ?_ (by assumption)))), ?_, ?_, ?_, ?_⟩
    · exact Box.alloc (Box.alloc (Box.alloc (Box.new _ _ _) _) _) _
    · exact Box.alloc (Box.alloc (Box.newAt (by simp [← G2.out]) _ _) _) _
    · exact Box.alloc (Box.newAt (by simp [← G3.out, ← G2.out]) _ _) _
    · exact Box.newAt (by simp [← G4.out, ← G3.out, ← G2.out]) _ _
  case round =>
    obtain ⟨x, HI, HT, R⟩ := hrel
    obtain ⟨B1, B2, B3, B4⟩ := R.2
    have HB0 := Lib.hid B1
    obtain ⟨_, _, _, _, _, _, _⟩ := B1.three
    rcases hr : x.red with _ | _
    · have HR := Lib.hid hr
      have ka : -1000000 ≤ x.a ∧ x.a ≤ 1000000 := HI.out.fa
      have kb : -1000000 ≤ x.b ∧ x.b ≤ 1000000 := HI.out.fb
      clear hr
      by_cases ho : x.out
      · have HX : Hid (∃ x', x' = x.stepT) := Lib.hid ⟨_, rfl⟩
        have HO := Lib.hid ho
        unfold RS3.out at ho
        rcases (show x.b ≤ -x.a ∨ (¬ x.b ≤ -x.a ∧ x.a < x.b) by omega) with ho1 | ⟨ho1, ho2⟩
        all_goals
          clear ho
          go_wp2_with fail
          refine (red_t HI.out false HR.out _).mono ?_
          rintro e w1 ⟨rfl, hb1⟩
          have R := R.step hb1
          clear B1 B2 B3 B4
          have MX : MxS w1 := Rd.below hmx R.1
          obtain ⟨_, _, _, _, _⟩ := Rd.four MX
          go_upto_region 4 with fail
          have n1 := R.2.1.1
          have n2 := R.2.2.1.1
          have n3 := R.2.2.2.1.1
          have n4 := R.2.2.2.2.1
          have BN : Box (w1.alloc (.cells #[.int .i64 0, .int .i64 (-1), .int .i64 1, .int .i64 0] 27)) w1.heap.size [.int .i64 0, .int .i64 (-1), .int .i64 1, .int .i64 0] := Box.new _ _ _
          have R := R.alloc (.cells #[.int .i64 0, .int .i64 (-1), .int .i64 1, .int .i64 0] 27)
          generalize w1.alloc (.cells #[.int .i64 0, .int .i64 (-1), .int .i64 1, .int .i64 0] 27) = wz at R BN ⊢
          obtain ⟨g5, hg5⟩ : ∃ g, w1.heap.size = g := ⟨_, rfl⟩
          rw [hg5] at n1 n2 n3 n4 BN
          simp only [hg5]
          clear hg5 hb1 MX
          have d1 : ¬ (g5 = w.heap.size) := by omega
          have d2 : ¬ (g5 = g2) := by omega
          have d3 : ¬ (g5 = g3) := by omega
          have d4 : ¬ (g5 = g4) := by omega
          have d1' : ¬ (w.heap.size = g5) := by omega
          have d2' : ¬ (g2 = g5) := by omega
          have d3' : ¬ (g3 = g5) := by omega
          have d4' : ¬ (g4 = g5) := by omega
          obtain ⟨B1, B2, B3, B4⟩ := R.2
          obtain ⟨_, _, _, _, _, _, _⟩ := B1.three
          go_quiet (fail)
          have R := R.drewN nq
          have BN := Box.drewN BN nq
          generalize World.drewN _ nq = wy at R BN ⊢
          clear B1 B2 B3 B4
          obtain ⟨B1, B2, B3, B4⟩ := R.2
          obtain ⟨_, _, _, _, _, _, _⟩ := B1.three
          clear B1 B2 B3 B4
          have n1' : w.heap.size < g5 := n1
          go_wp2_with fail
          refine (floor_t HI.out _).mono ?_
          rintro e w2 ⟨rfl, rfl⟩
          go_wp2_with fail
          refine (powerOfT_any _ _).mono ?_
          rintro e w2 ⟨rfl, hb2⟩
          have R := R.step hb2
          have BN := BN.below hb2
          obtain ⟨_, _, _, _, _, _, _, _, _⟩ := BN.four
          go_upto_region 7 with fail
          have BN := BN.put4 (.int .i64 1) (.int .i64 x.kk) (.int .i64 0) (.int .i64 1)
          have R := R.far4 n1' d2' d3' d4' (.int .i64 1) (.int .i64 x.kk) (.int .i64 0) (.int .i64 1)
          generalize World.setCell _ ⟨g5, 3, none⟩ (.int .i64 1) = wz at R BN ⊢
          obtain ⟨x', hx'⟩ := HX.out
          have HXX := Lib.hid hx'
          have HA := Lib.hid (fun w => made_t HI.out hx' w)
          have HM := Lib.hid (fun w => mul_t HF.out.1 HF.out.2.1 HF.out.2.2.1 HF.out.2.2.2 HI.out hx' w)
          clear hx'
          go_upto_region 7 with fail
          generalize wq : wz = wz at R BN ⊢
          clear wq
          have R := R.drew
          have BN := Box.drew BN
          obtain ⟨B1, B2, B3, B4⟩ := R.2
          obtain ⟨_, _, _, _, _, _, _⟩ := B1.three
          obtain ⟨_, _, _, _, _, _, _, _, _⟩ := B4.four
          obtain ⟨_, s0, s1, s2, s3, _, _, _, _⟩ := BN.four
          refine wp_region_held_drew (S := fun w' => w'.cell? ⟨g5, 0, none⟩ = some (.int .i64 1) ∧ w'.cell? ⟨g5, 1, none⟩ = some (.int .i64 x.kk) ∧ w'.cell? ⟨g5, 2, none⟩ = some (.int .i64 0) ∧ w'.cell? ⟨g5, 3, none⟩ = some (.int .i64 1)) (by kernel_rfl) ⟨s0, s1, s2, s3⟩ (fun hHeld => ?_)
          refine wpAnyH_take (i := 0) (oi := _) (v := (.agg #[.int .i64 1, .int .i64 x.kk, .int .i64 0, .int .i64 1])) rfl (by kernel_rfl) (by kernel_rfl) (by kernel_rfl) (fun _ _ _ h => h) (Or.inl ⟨by rfl, fun w hSw => by obtain ⟨_, _, _, _⟩ := hSw; go_simp⟩) (by assumption) ?_
          simp only [Act.put, List.setIfInBounds_toArray]
          refine wpAnyH_take (i := 4) (oi := _) (v := (.agg #[.int .i64 1, .int .i64 x.kk, .int .i64 0, .int .i64 1])) rfl (by kernel_rfl) (by kernel_rfl) (by kernel_rfl) (fun _ _ _ h => h) (Or.inl ⟨by rfl, fun w hSw => by obtain ⟨_, _, _, _⟩ := hSw; go_simp⟩) (by assumption) ?_
          simp only [Act.put]
          refine wpAnyH_ready (rs := [1, 3]) (by kernel_rfl) (by simp) ?_
          refine AllReadyH.cons (o := _) rfl (fun K hK => ?_) ?_
          · go_simp
            refine hK.out _ _ ⟨s0, s1, s2, s3⟩ (fun hHeld => ?_)
            clear hK K
            try simp only [Act.put, List.setIfInBounds_toArray, List.set_cons_zero, List.set_cons_succ]
            refine wpAnyH_ready (rs := [2, 3]) (by kernel_rfl) (by simp) ?_
            refine AllReadyH.cons (o := _) rfl (fun K hK => ?_) ?_
            · go_simp
              refine (HA.out _).mono ?_
              rintro e w2 ⟨rfl, hb2⟩
              have R' := R.step hb2
              have BN' := BN.below hb2
              clear B1 B2 B3 B4 s0 s1 s2 s3 R BN hb2
              have R := R'
              have BN := BN'
              clear R' BN'
              obtain ⟨B1, B2, B3, B4⟩ := R.2
              obtain ⟨_, _, _, _, _, _, _⟩ := B1.three
              obtain ⟨_, _, _, _, _, _, _, _, _⟩ := B4.four
              obtain ⟨_, s0, s1, s2, s3, _, _, _, _⟩ := BN.four
              refine hK.out _ _ ⟨s0, s1, s2, s3⟩ (fun hHeld => ?_)
              clear hK K
              try simp only [Act.put, List.setIfInBounds_toArray, List.set_cons_zero, List.set_cons_succ]
              refine wpAnyH_ready (rs := [3]) (by kernel_rfl) (by simp) ?_
              refine AllReadyH.cons (o := _) rfl (fun K hK => ?_) ?_
              · go_simp
                refine hK.out _ _ ⟨s0, s1, s2, s3⟩ (fun hHeld => ?_)
                clear hK K
                try simp only [Act.put, List.setIfInBounds_toArray, List.set_cons_zero, List.set_cons_succ]
                refine wpAnyH_ready (rs := [5]) (by kernel_rfl) (by simp) ?_
                refine AllReadyH.cons (o := _) rfl (fun K hK => ?_) ?_
                · go_simp
                  refine (HM.out _).mono ?_
                  rintro e w2 ⟨rfl, hb2⟩
                  have R' := R.step hb2
                  have BN' := BN.below hb2
                  clear B1 B2 B3 B4 s0 s1 s2 s3 R BN hb2
                  have R := R'
                  have BN := BN'
                  clear R' BN'
                  obtain ⟨B1, B2, B3, B4⟩ := R.2
                  obtain ⟨_, _, _, _, _, _, _⟩ := B1.three
                  obtain ⟨_, _, _, _, _, _, _, _, _⟩ := B4.four
                  obtain ⟨_, s0, s1, s2, s3, _, _, _, _⟩ := BN.four
                  refine hK.out _ _ ⟨s0, s1, s2, s3⟩ (fun hHeld => ?_)
                  clear hK K
                  try simp only [Act.put, List.setIfInBounds_toArray, List.set_cons_zero, List.set_cons_succ]
                  refine wpAnyH_ready (rs := [6]) (by kernel_rfl) (by simp) ?_
                  refine AllReadyH.cons (o := _) rfl (fun K hK => ?_) ?_
                  · go_simp
                    have R' := R.newF e1 e2 e3 x'.a x'.b x'.c
                    have BN' := ((BN.far (p := ⟨w.heap.size, 0, none⟩) d1 (.int .i64 x'.a)).far (p := ⟨w.heap.size, 1, none⟩) d1 (.int .i64 x'.b)).far (p := ⟨w.heap.size, 2, none⟩) d1 (.int .i64 x'.c)
                    generalize World.setCell _ ⟨w.heap.size, 2, none⟩ (.int .i64 x'.c) = w4 at R' BN' ⊢
                    clear B1 B2 B3 B4 s0 s1 s2 s3 R BN
                    have R := R'
                    have BN := BN'
                    clear R' BN'
                    obtain ⟨B1, B2, B3, B4⟩ := R.2
                    obtain ⟨_, _, _, _, _, _, _, _, _⟩ := B4.four
                    obtain ⟨_, s0, s1, s2, s3, _, _, _, _⟩ := BN.four
                    refine hK.out _ _ ⟨s0, s1, s2, s3⟩ (fun hHeld => ?_)
                    clear hK K
                    try simp only [Act.put, List.setIfInBounds_toArray, List.set_cons_zero, List.set_cons_succ]
                    refine wpAnyH_ready (rs := [7]) (by kernel_rfl) (by simp) ?_
                    refine AllReadyH.cons (o := _) rfl (fun K hK => ?_) ?_
                    · go_simp
                      have R' := R.newM l4 e3' e5' e6' x'.p x'.q x'.r x'.s
                      have BN' := (((BN.far (p := ⟨g4, 0, none⟩) d4 (.int .i64 x'.p)).far (p := ⟨g4, 1, none⟩) d4 (.int .i64 x'.q)).far (p := ⟨g4, 2, none⟩) d4 (.int .i64 x'.r)).far (p := ⟨g4, 3, none⟩) d4 (.int .i64 x'.s)
                      generalize World.setCell _ ⟨g4, 3, none⟩ (.int .i64 x'.s) = w5 at R' BN' ⊢
                      obtain ⟨_, s0, s1, s2, s3, _, _, _, _⟩ := BN'.four
                      refine hK.out _ _ ⟨s0, s1, s2, s3⟩ (fun hHeld => ?_)
                      clear hK K
                      try simp only [Act.put, List.setIfInBounds_toArray, List.set_cons_zero, List.set_cons_succ]
                      refine wpAnyH_done (by kernel_rfl) ?_ _
                      go_wp2
                      go_roundw
                      case rel => exact ⟨x', Lib.hid (HXX.out ▸ RS3.stepT_inv HI.out HO.out), Lib.hid (HXX.out ▸ HT.out.next_t HR.out HO.out), R'⟩
                      case measure =>
                        rw [muW_of R'.2.1, muW_of HB0.out, HXX.out]
                        exact RS3.stepT_mu HI.out.pos HI.out.fa HI.out.fb HO.out
                    exact AllReadyH.nil
                  exact AllReadyH.nil
                exact AllReadyH.nil
              exact AllReadyH.nil
            refine AllReadyH.cons (o := _) rfl (fun K hK => ?_) ?_
            · go_simp
              refine hK.out _ _ ⟨s0, s1, s2, s3⟩ (fun hHeld => ?_)
              clear hK K
              try simp only [Act.put, List.setIfInBounds_toArray, List.set_cons_zero, List.set_cons_succ]
              refine wpAnyH_ready (rs := [2]) (by kernel_rfl) (by simp) ?_
              refine AllReadyH.cons (o := _) rfl (fun K hK => ?_) ?_
              · go_simp
                refine (HA.out _).mono ?_
                rintro e w2 ⟨rfl, hb2⟩
                have R' := R.step hb2
                have BN' := BN.below hb2
                clear B1 B2 B3 B4 s0 s1 s2 s3 R BN hb2
                have R := R'
                have BN := BN'
                clear R' BN'
                obtain ⟨B1, B2, B3, B4⟩ := R.2
                obtain ⟨_, _, _, _, _, _, _⟩ := B1.three
                obtain ⟨_, _, _, _, _, _, _, _, _⟩ := B4.four
                obtain ⟨_, s0, s1, s2, s3, _, _, _, _⟩ := BN.four
                refine hK.out _ _ ⟨s0, s1, s2, s3⟩ (fun hHeld => ?_)
                clear hK K
                try simp only [Act.put, List.setIfInBounds_toArray, List.set_cons_zero, List.set_cons_succ]
                refine wpAnyH_ready (rs := [5]) (by kernel_rfl) (by simp) ?_
                refine AllReadyH.cons (o := _) rfl (fun K hK => ?_) ?_
                · go_simp
                  refine (HM.out _).mono ?_
                  rintro e w2 ⟨rfl, hb2⟩
                  have R' := R.step hb2
                  have BN' := BN.below hb2
                  clear B1 B2 B3 B4 s0 s1 s2 s3 R BN hb2
                  have R := R'
                  have BN := BN'
                  clear R' BN'
                  obtain ⟨B1, B2, B3, B4⟩ := R.2
                  obtain ⟨_, _, _, _, _, _, _⟩ := B1.three
                  obtain ⟨_, _, _, _, _, _, _, _, _⟩ := B4.four
                  obtain ⟨_, s0, s1, s2, s3, _, _, _, _⟩ := BN.four
                  refine hK.out _ _ ⟨s0, s1, s2, s3⟩ (fun hHeld => ?_)
                  clear hK K
                  try simp only [Act.put, List.setIfInBounds_toArray, List.set_cons_zero, List.set_cons_succ]
                  refine wpAnyH_ready (rs := [6]) (by kernel_rfl) (by simp) ?_
                  refine AllReadyH.cons (o := _) rfl (fun K hK => ?_) ?_
                  · go_simp
                    have R' := R.newF e1 e2 e3 x'.a x'.b x'.c
                    have BN' := ((BN.far (p := ⟨w.heap.size, 0, none⟩) d1 (.int .i64 x'.a)).far (p := ⟨w.heap.size, 1, none⟩) d1 (.int .i64 x'.b)).far (p := ⟨w.heap.size, 2, none⟩) d1 (.int .i64 x'.c)
                    generalize World.setCell _ ⟨w.heap.size, 2, none⟩ (.int .i64 x'.c) = w4 at R' BN' ⊢
                    clear B1 B2 B3 B4 s0 s1 s2 s3 R BN
                    have R := R'
                    have BN := BN'
                    clear R' BN'
                    obtain ⟨B1, B2, B3, B4⟩ := R.2
                    obtain ⟨_, _, _, _, _, _, _, _, _⟩ := B4.four
                    obtain ⟨_, s0, s1, s2, s3, _, _, _, _⟩ := BN.four
                    refine hK.out _ _ ⟨s0, s1, s2, s3⟩ (fun hHeld => ?_)
                    clear hK K
                    try simp only [Act.put, List.setIfInBounds_toArray, List.set_cons_zero, List.set_cons_succ]
                    refine wpAnyH_ready (rs := [7]) (by kernel_rfl) (by simp) ?_
                    refine AllReadyH.cons (o := _) rfl (fun K hK => ?_) ?_
                    · go_simp
                      have R' := R.newM l4 e3' e5' e6' x'.p x'.q x'.r x'.s
                      have BN' := (((BN.far (p := ⟨g4, 0, none⟩) d4 (.int .i64 x'.p)).far (p := ⟨g4, 1, none⟩) d4 (.int .i64 x'.q)).far (p := ⟨g4, 2, none⟩) d4 (.int .i64 x'.r)).far (p := ⟨g4, 3, none⟩) d4 (.int .i64 x'.s)
                      generalize World.setCell _ ⟨g4, 3, none⟩ (.int .i64 x'.s) = w5 at R' BN' ⊢
                      obtain ⟨_, s0, s1, s2, s3, _, _, _, _⟩ := BN'.four
                      refine hK.out _ _ ⟨s0, s1, s2, s3⟩ (fun hHeld => ?_)
                      clear hK K
                      try simp only [Act.put, List.setIfInBounds_toArray, List.set_cons_zero, List.set_cons_succ]
                      refine wpAnyH_done (by kernel_rfl) ?_ _
                      go_wp2
                      go_roundw
                      case rel => exact ⟨x', Lib.hid (HXX.out ▸ RS3.stepT_inv HI.out HO.out), Lib.hid (HXX.out ▸ HT.out.next_t HR.out HO.out), R'⟩
                      case measure =>
                        rw [muW_of R'.2.1, muW_of HB0.out, HXX.out]
                        exact RS3.stepT_mu HI.out.pos HI.out.fa HI.out.fb HO.out
                    exact AllReadyH.nil
                  exact AllReadyH.nil
                exact AllReadyH.nil
              exact AllReadyH.nil
            exact AllReadyH.nil
          refine AllReadyH.cons (o := _) rfl (fun K hK => ?_) ?_
          · go_simp
            refine hK.out _ _ ⟨s0, s1, s2, s3⟩ (fun hHeld => ?_)
            clear hK K
            try simp only [Act.put, List.setIfInBounds_toArray, List.set_cons_zero, List.set_cons_succ]
            refine wpAnyH_ready (rs := [1]) (by kernel_rfl) (by simp) ?_
            refine AllReadyH.cons (o := _) rfl (fun K hK => ?_) ?_
            · go_simp
              refine hK.out _ _ ⟨s0, s1, s2, s3⟩ (fun hHeld => ?_)
              clear hK K
              try simp only [Act.put, List.setIfInBounds_toArray, List.set_cons_zero, List.set_cons_succ]
              refine wpAnyH_ready (rs := [2]) (by kernel_rfl) (by simp) ?_
              refine AllReadyH.cons (o := _) rfl (fun K hK => ?_) ?_
              · go_simp
                refine (HA.out _).mono ?_
                rintro e w2 ⟨rfl, hb2⟩
                have R' := R.step hb2
                have BN' := BN.below hb2
                clear B1 B2 B3 B4 s0 s1 s2 s3 R BN hb2
                have R := R'
                have BN := BN'
                clear R' BN'
                obtain ⟨B1, B2, B3, B4⟩ := R.2
                obtain ⟨_, _, _, _, _, _, _⟩ := B1.three
                obtain ⟨_, _, _, _, _, _, _, _, _⟩ := B4.four
                obtain ⟨_, s0, s1, s2, s3, _, _, _, _⟩ := BN.four
                refine hK.out _ _ ⟨s0, s1, s2, s3⟩ (fun hHeld => ?_)
                clear hK K
                try simp only [Act.put, List.setIfInBounds_toArray, List.set_cons_zero, List.set_cons_succ]
                refine wpAnyH_ready (rs := [5]) (by kernel_rfl) (by simp) ?_
                refine AllReadyH.cons (o := _) rfl (fun K hK => ?_) ?_
                · go_simp
                  refine (HM.out _).mono ?_
                  rintro e w2 ⟨rfl, hb2⟩
                  have R' := R.step hb2
                  have BN' := BN.below hb2
                  clear B1 B2 B3 B4 s0 s1 s2 s3 R BN hb2
                  have R := R'
                  have BN := BN'
                  clear R' BN'
                  obtain ⟨B1, B2, B3, B4⟩ := R.2
                  obtain ⟨_, _, _, _, _, _, _⟩ := B1.three
                  obtain ⟨_, _, _, _, _, _, _, _, _⟩ := B4.four
                  obtain ⟨_, s0, s1, s2, s3, _, _, _, _⟩ := BN.four
                  refine hK.out _ _ ⟨s0, s1, s2, s3⟩ (fun hHeld => ?_)
                  clear hK K
                  try simp only [Act.put, List.setIfInBounds_toArray, List.set_cons_zero, List.set_cons_succ]
                  refine wpAnyH_ready (rs := [6]) (by kernel_rfl) (by simp) ?_
                  refine AllReadyH.cons (o := _) rfl (fun K hK => ?_) ?_
                  · go_simp
                    have R' := R.newF e1 e2 e3 x'.a x'.b x'.c
                    have BN' := ((BN.far (p := ⟨w.heap.size, 0, none⟩) d1 (.int .i64 x'.a)).far (p := ⟨w.heap.size, 1, none⟩) d1 (.int .i64 x'.b)).far (p := ⟨w.heap.size, 2, none⟩) d1 (.int .i64 x'.c)
                    generalize World.setCell _ ⟨w.heap.size, 2, none⟩ (.int .i64 x'.c) = w4 at R' BN' ⊢
                    clear B1 B2 B3 B4 s0 s1 s2 s3 R BN
                    have R := R'
                    have BN := BN'
                    clear R' BN'
                    obtain ⟨B1, B2, B3, B4⟩ := R.2
                    obtain ⟨_, _, _, _, _, _, _, _, _⟩ := B4.four
                    obtain ⟨_, s0, s1, s2, s3, _, _, _, _⟩ := BN.four
                    refine hK.out _ _ ⟨s0, s1, s2, s3⟩ (fun hHeld => ?_)
                    clear hK K
                    try simp only [Act.put, List.setIfInBounds_toArray, List.set_cons_zero, List.set_cons_succ]
                    refine wpAnyH_ready (rs := [7]) (by kernel_rfl) (by simp) ?_
                    refine AllReadyH.cons (o := _) rfl (fun K hK => ?_) ?_
                    · go_simp
                      have R' := R.newM l4 e3' e5' e6' x'.p x'.q x'.r x'.s
                      have BN' := (((BN.far (p := ⟨g4, 0, none⟩) d4 (.int .i64 x'.p)).far (p := ⟨g4, 1, none⟩) d4 (.int .i64 x'.q)).far (p := ⟨g4, 2, none⟩) d4 (.int .i64 x'.r)).far (p := ⟨g4, 3, none⟩) d4 (.int .i64 x'.s)
                      generalize World.setCell _ ⟨g4, 3, none⟩ (.int .i64 x'.s) = w5 at R' BN' ⊢
                      obtain ⟨_, s0, s1, s2, s3, _, _, _, _⟩ := BN'.four
                      refine hK.out _ _ ⟨s0, s1, s2, s3⟩ (fun hHeld => ?_)
                      clear hK K
                      try simp only [Act.put, List.setIfInBounds_toArray, List.set_cons_zero, List.set_cons_succ]
                      refine wpAnyH_done (by kernel_rfl) ?_ _
                      go_wp2
                      go_roundw
                      case rel => exact ⟨x', Lib.hid (HXX.out ▸ RS3.stepT_inv HI.out HO.out), Lib.hid (HXX.out ▸ HT.out.next_t HR.out HO.out), R'⟩
                      case measure =>
                        rw [muW_of R'.2.1, muW_of HB0.out, HXX.out]
                        exact RS3.stepT_mu HI.out.pos HI.out.fa HI.out.fb HO.out
                    exact AllReadyH.nil
                  exact AllReadyH.nil
                exact AllReadyH.nil
              exact AllReadyH.nil
            exact AllReadyH.nil
          exact AllReadyH.nil
      · have HX : Hid (∃ x', x' = x.stepS) := Lib.hid ⟨_, rfl⟩
        have HO := Lib.hid ho
        unfold RS3.out at ho
        obtain ⟨ho1, ho2⟩ : ¬ x.b ≤ -x.a ∧ ¬ x.a < x.b := by omega
        clear ho
        focus
          go_wp2_with fail
          refine (red_t HI.out false HR.out _).mono ?_
          rintro e w1 ⟨rfl, hb1⟩
          have R := R.step hb1
          clear B1 B2 B3 B4
          have MX : MxS w1 := Rd.below hmx R.1
          obtain ⟨_, _, _, _, _⟩ := Rd.four MX
          go_upto_region 4 with fail
          have n1 := R.2.1.1
          have n2 := R.2.2.1.1
          have n3 := R.2.2.2.1.1
          have n4 := R.2.2.2.2.1
          have BN : Box (w1.alloc (.cells #[.int .i64 0, .int .i64 (-1), .int .i64 1, .int .i64 0] 27)) w1.heap.size [.int .i64 0, .int .i64 (-1), .int .i64 1, .int .i64 0] := Box.new _ _ _
          have R := R.alloc (.cells #[.int .i64 0, .int .i64 (-1), .int .i64 1, .int .i64 0] 27)
          generalize w1.alloc (.cells #[.int .i64 0, .int .i64 (-1), .int .i64 1, .int .i64 0] 27) = wz at R BN ⊢
          obtain ⟨g5, hg5⟩ : ∃ g, w1.heap.size = g := ⟨_, rfl⟩
          rw [hg5] at n1 n2 n3 n4 BN
          simp only [hg5]
          clear hg5 hb1 MX
          have d1 : ¬ (g5 = w.heap.size) := by omega
          have d2 : ¬ (g5 = g2) := by omega
          have d3 : ¬ (g5 = g3) := by omega
          have d4 : ¬ (g5 = g4) := by omega
          have d1' : ¬ (w.heap.size = g5) := by omega
          have d2' : ¬ (g2 = g5) := by omega
          have d3' : ¬ (g3 = g5) := by omega
          have d4' : ¬ (g4 = g5) := by omega
          obtain ⟨B1, B2, B3, B4⟩ := R.2
          obtain ⟨_, _, _, _, _, _, _⟩ := B1.three
          go_quiet (fail)
          have R := R.drewN nq
          have BN := Box.drewN BN nq
          generalize World.drewN _ nq = wy at R BN ⊢
          clear B1 B2 B3 B4
          obtain ⟨B1, B2, B3, B4⟩ := R.2
          obtain ⟨_, _, _, _, _, _, _⟩ := B1.three
          clear B1 B2 B3 B4
          go_upto_region 7 with fail
          generalize wy = wz at R BN ⊢
          obtain ⟨x', hx'⟩ := HX.out
          have HXX := Lib.hid hx'
          have HA := Lib.hid (fun w => made_s HI.out hx' w)
          have HM := Lib.hid (fun w => mul_s HF.out.1 HF.out.2.1 HF.out.2.2.1 HF.out.2.2.2 HI.out hx' w)
          clear hx'
          go_upto_region 7 with fail
          generalize wq : wz = wz at R BN ⊢
          clear wq
          have R := R.drew
          have BN := Box.drew BN
          obtain ⟨B1, B2, B3, B4⟩ := R.2
          obtain ⟨_, _, _, _, _, _, _⟩ := B1.three
          obtain ⟨_, _, _, _, _, _, _, _, _⟩ := B4.four
          obtain ⟨_, s0, s1, s2, s3, _, _, _, _⟩ := BN.four
          refine wp_region_held_drew (S := fun w' => w'.cell? ⟨g5, 0, none⟩ = some (.int .i64 0) ∧ w'.cell? ⟨g5, 1, none⟩ = some (.int .i64 (-1)) ∧ w'.cell? ⟨g5, 2, none⟩ = some (.int .i64 1) ∧ w'.cell? ⟨g5, 3, none⟩ = some (.int .i64 0)) (by kernel_rfl) ⟨s0, s1, s2, s3⟩ (fun hHeld => ?_)
          refine wpAnyH_take (i := 0) (oi := _) (v := (.agg #[.int .i64 0, .int .i64 (-1), .int .i64 1, .int .i64 0])) rfl (by kernel_rfl) (by kernel_rfl) (by kernel_rfl) (fun _ _ _ h => h) (Or.inl ⟨by rfl, fun w hSw => by obtain ⟨_, _, _, _⟩ := hSw; go_simp⟩) (by assumption) ?_
          simp only [Act.put, List.setIfInBounds_toArray]
          refine wpAnyH_take (i := 4) (oi := _) (v := (.agg #[.int .i64 0, .int .i64 (-1), .int .i64 1, .int .i64 0])) rfl (by kernel_rfl) (by kernel_rfl) (by kernel_rfl) (fun _ _ _ h => h) (Or.inl ⟨by rfl, fun w hSw => by obtain ⟨_, _, _, _⟩ := hSw; go_simp⟩) (by assumption) ?_
          simp only [Act.put]
          refine wpAnyH_ready (rs := [1, 3]) (by kernel_rfl) (by simp) ?_
          refine AllReadyH.cons (o := _) rfl (fun K hK => ?_) ?_
          · go_simp
            refine hK.out _ _ ⟨s0, s1, s2, s3⟩ (fun hHeld => ?_)
            clear hK K
            try simp only [Act.put, List.setIfInBounds_toArray, List.set_cons_zero, List.set_cons_succ]
            refine wpAnyH_ready (rs := [2, 3]) (by kernel_rfl) (by simp) ?_
            refine AllReadyH.cons (o := _) rfl (fun K hK => ?_) ?_
            · go_simp
              refine (HA.out _).mono ?_
              rintro e w2 ⟨rfl, hb2⟩
              have R' := R.step hb2
              have BN' := BN.below hb2
              clear B1 B2 B3 B4 s0 s1 s2 s3 R BN hb2
              have R := R'
              have BN := BN'
              clear R' BN'
              obtain ⟨B1, B2, B3, B4⟩ := R.2
              obtain ⟨_, _, _, _, _, _, _⟩ := B1.three
              obtain ⟨_, _, _, _, _, _, _, _, _⟩ := B4.four
              obtain ⟨_, s0, s1, s2, s3, _, _, _, _⟩ := BN.four
              refine hK.out _ _ ⟨s0, s1, s2, s3⟩ (fun hHeld => ?_)
              clear hK K
              try simp only [Act.put, List.setIfInBounds_toArray, List.set_cons_zero, List.set_cons_succ]
              refine wpAnyH_ready (rs := [3]) (by kernel_rfl) (by simp) ?_
              refine AllReadyH.cons (o := _) rfl (fun K hK => ?_) ?_
              · go_simp
                refine hK.out _ _ ⟨s0, s1, s2, s3⟩ (fun hHeld => ?_)
                clear hK K
                try simp only [Act.put, List.setIfInBounds_toArray, List.set_cons_zero, List.set_cons_succ]
                refine wpAnyH_ready (rs := [5]) (by kernel_rfl) (by simp) ?_
                refine AllReadyH.cons (o := _) rfl (fun K hK => ?_) ?_
                · go_simp
                  refine (HM.out _).mono ?_
                  rintro e w2 ⟨rfl, hb2⟩
                  have R' := R.step hb2
                  have BN' := BN.below hb2
                  clear B1 B2 B3 B4 s0 s1 s2 s3 R BN hb2
                  have R := R'
                  have BN := BN'
                  clear R' BN'
                  obtain ⟨B1, B2, B3, B4⟩ := R.2
                  obtain ⟨_, _, _, _, _, _, _⟩ := B1.three
                  obtain ⟨_, _, _, _, _, _, _, _, _⟩ := B4.four
                  obtain ⟨_, s0, s1, s2, s3, _, _, _, _⟩ := BN.four
                  refine hK.out _ _ ⟨s0, s1, s2, s3⟩ (fun hHeld => ?_)
                  clear hK K
                  try simp only [Act.put, List.setIfInBounds_toArray, List.set_cons_zero, List.set_cons_succ]
                  refine wpAnyH_ready (rs := [6]) (by kernel_rfl) (by simp) ?_
                  refine AllReadyH.cons (o := _) rfl (fun K hK => ?_) ?_
                  · go_simp
                    have R' := R.newF e1 e2 e3 x'.a x'.b x'.c
                    have BN' := ((BN.far (p := ⟨w.heap.size, 0, none⟩) d1 (.int .i64 x'.a)).far (p := ⟨w.heap.size, 1, none⟩) d1 (.int .i64 x'.b)).far (p := ⟨w.heap.size, 2, none⟩) d1 (.int .i64 x'.c)
                    generalize World.setCell _ ⟨w.heap.size, 2, none⟩ (.int .i64 x'.c) = w4 at R' BN' ⊢
                    clear B1 B2 B3 B4 s0 s1 s2 s3 R BN
                    have R := R'
                    have BN := BN'
                    clear R' BN'
                    obtain ⟨B1, B2, B3, B4⟩ := R.2
                    obtain ⟨_, _, _, _, _, _, _, _, _⟩ := B4.four
                    obtain ⟨_, s0, s1, s2, s3, _, _, _, _⟩ := BN.four
                    refine hK.out _ _ ⟨s0, s1, s2, s3⟩ (fun hHeld => ?_)
                    clear hK K
                    try simp only [Act.put, List.setIfInBounds_toArray, List.set_cons_zero, List.set_cons_succ]
                    refine wpAnyH_ready (rs := [7]) (by kernel_rfl) (by simp) ?_
                    refine AllReadyH.cons (o := _) rfl (fun K hK => ?_) ?_
                    · go_simp
                      have R' := R.newM l4 e3' e5' e6' x'.p x'.q x'.r x'.s
                      have BN' := (((BN.far (p := ⟨g4, 0, none⟩) d4 (.int .i64 x'.p)).far (p := ⟨g4, 1, none⟩) d4 (.int .i64 x'.q)).far (p := ⟨g4, 2, none⟩) d4 (.int .i64 x'.r)).far (p := ⟨g4, 3, none⟩) d4 (.int .i64 x'.s)
                      generalize World.setCell _ ⟨g4, 3, none⟩ (.int .i64 x'.s) = w5 at R' BN' ⊢
                      obtain ⟨_, s0, s1, s2, s3, _, _, _, _⟩ := BN'.four
                      refine hK.out _ _ ⟨s0, s1, s2, s3⟩ (fun hHeld => ?_)
                      clear hK K
                      try simp only [Act.put, List.setIfInBounds_toArray, List.set_cons_zero, List.set_cons_succ]
                      refine wpAnyH_done (by kernel_rfl) ?_ _
                      go_wp2
                      go_roundw
                      case rel => exact ⟨x', Lib.hid (HXX.out ▸ RS3.stepS_inv HI.out), Lib.hid (HXX.out ▸ HT.out.next_s HR.out HO.out), R'⟩
                      case measure =>
                        rw [muW_of R'.2.1, muW_of HB0.out, HXX.out]
                        exact RS3.stepS_mu HI.out.pos (RS3.c_pos HI.out.pos HI.out.dn) HR.out HO.out
                    exact AllReadyH.nil
                  exact AllReadyH.nil
                exact AllReadyH.nil
              exact AllReadyH.nil
            refine AllReadyH.cons (o := _) rfl (fun K hK => ?_) ?_
            · go_simp
              refine hK.out _ _ ⟨s0, s1, s2, s3⟩ (fun hHeld => ?_)
              clear hK K
              try simp only [Act.put, List.setIfInBounds_toArray, List.set_cons_zero, List.set_cons_succ]
              refine wpAnyH_ready (rs := [2]) (by kernel_rfl) (by simp) ?_
              refine AllReadyH.cons (o := _) rfl (fun K hK => ?_) ?_
              · go_simp
                refine (HA.out _).mono ?_
                rintro e w2 ⟨rfl, hb2⟩
                have R' := R.step hb2
                have BN' := BN.below hb2
                clear B1 B2 B3 B4 s0 s1 s2 s3 R BN hb2
                have R := R'
                have BN := BN'
                clear R' BN'
                obtain ⟨B1, B2, B3, B4⟩ := R.2
                obtain ⟨_, _, _, _, _, _, _⟩ := B1.three
                obtain ⟨_, _, _, _, _, _, _, _, _⟩ := B4.four
                obtain ⟨_, s0, s1, s2, s3, _, _, _, _⟩ := BN.four
                refine hK.out _ _ ⟨s0, s1, s2, s3⟩ (fun hHeld => ?_)
                clear hK K
                try simp only [Act.put, List.setIfInBounds_toArray, List.set_cons_zero, List.set_cons_succ]
                refine wpAnyH_ready (rs := [5]) (by kernel_rfl) (by simp) ?_
                refine AllReadyH.cons (o := _) rfl (fun K hK => ?_) ?_
                · go_simp
                  refine (HM.out _).mono ?_
                  rintro e w2 ⟨rfl, hb2⟩
                  have R' := R.step hb2
                  have BN' := BN.below hb2
                  clear B1 B2 B3 B4 s0 s1 s2 s3 R BN hb2
                  have R := R'
                  have BN := BN'
                  clear R' BN'
                  obtain ⟨B1, B2, B3, B4⟩ := R.2
                  obtain ⟨_, _, _, _, _, _, _⟩ := B1.three
                  obtain ⟨_, _, _, _, _, _, _, _, _⟩ := B4.four
                  obtain ⟨_, s0, s1, s2, s3, _, _, _, _⟩ := BN.four
                  refine hK.out _ _ ⟨s0, s1, s2, s3⟩ (fun hHeld => ?_)
                  clear hK K
                  try simp only [Act.put, List.setIfInBounds_toArray, List.set_cons_zero, List.set_cons_succ]
                  refine wpAnyH_ready (rs := [6]) (by kernel_rfl) (by simp) ?_
                  refine AllReadyH.cons (o := _) rfl (fun K hK => ?_) ?_
                  · go_simp
                    have R' := R.newF e1 e2 e3 x'.a x'.b x'.c
                    have BN' := ((BN.far (p := ⟨w.heap.size, 0, none⟩) d1 (.int .i64 x'.a)).far (p := ⟨w.heap.size, 1, none⟩) d1 (.int .i64 x'.b)).far (p := ⟨w.heap.size, 2, none⟩) d1 (.int .i64 x'.c)
                    generalize World.setCell _ ⟨w.heap.size, 2, none⟩ (.int .i64 x'.c) = w4 at R' BN' ⊢
                    clear B1 B2 B3 B4 s0 s1 s2 s3 R BN
                    have R := R'
                    have BN := BN'
                    clear R' BN'
                    obtain ⟨B1, B2, B3, B4⟩ := R.2
                    obtain ⟨_, _, _, _, _, _, _, _, _⟩ := B4.four
                    obtain ⟨_, s0, s1, s2, s3, _, _, _, _⟩ := BN.four
                    refine hK.out _ _ ⟨s0, s1, s2, s3⟩ (fun hHeld => ?_)
                    clear hK K
                    try simp only [Act.put, List.setIfInBounds_toArray, List.set_cons_zero, List.set_cons_succ]
                    refine wpAnyH_ready (rs := [7]) (by kernel_rfl) (by simp) ?_
                    refine AllReadyH.cons (o := _) rfl (fun K hK => ?_) ?_
                    · go_simp
                      have R' := R.newM l4 e3' e5' e6' x'.p x'.q x'.r x'.s
                      have BN' := (((BN.far (p := ⟨g4, 0, none⟩) d4 (.int .i64 x'.p)).far (p := ⟨g4, 1, none⟩) d4 (.int .i64 x'.q)).far (p := ⟨g4, 2, none⟩) d4 (.int .i64 x'.r)).far (p := ⟨g4, 3, none⟩) d4 (.int .i64 x'.s)
                      generalize World.setCell _ ⟨g4, 3, none⟩ (.int .i64 x'.s) = w5 at R' BN' ⊢
                      obtain ⟨_, s0, s1, s2, s3, _, _, _, _⟩ := BN'.four
                      refine hK.out _ _ ⟨s0, s1, s2, s3⟩ (fun hHeld => ?_)
                      clear hK K
                      try simp only [Act.put, List.setIfInBounds_toArray, List.set_cons_zero, List.set_cons_succ]
                      refine wpAnyH_done (by kernel_rfl) ?_ _
                      go_wp2
                      go_roundw
                      case rel => exact ⟨x', Lib.hid (HXX.out ▸ RS3.stepS_inv HI.out), Lib.hid (HXX.out ▸ HT.out.next_s HR.out HO.out), R'⟩
                      case measure =>
                        rw [muW_of R'.2.1, muW_of HB0.out, HXX.out]
                        exact RS3.stepS_mu HI.out.pos (RS3.c_pos HI.out.pos HI.out.dn) HR.out HO.out
                    exact AllReadyH.nil
                  exact AllReadyH.nil
                exact AllReadyH.nil
              exact AllReadyH.nil
            exact AllReadyH.nil
          refine AllReadyH.cons (o := _) rfl (fun K hK => ?_) ?_
          · go_simp
            refine hK.out _ _ ⟨s0, s1, s2, s3⟩ (fun hHeld => ?_)
            clear hK K
            try simp only [Act.put, List.setIfInBounds_toArray, List.set_cons_zero, List.set_cons_succ]
            refine wpAnyH_ready (rs := [1]) (by kernel_rfl) (by simp) ?_
            refine AllReadyH.cons (o := _) rfl (fun K hK => ?_) ?_
            · go_simp
              refine hK.out _ _ ⟨s0, s1, s2, s3⟩ (fun hHeld => ?_)
              clear hK K
              try simp only [Act.put, List.setIfInBounds_toArray, List.set_cons_zero, List.set_cons_succ]
              refine wpAnyH_ready (rs := [2]) (by kernel_rfl) (by simp) ?_
              refine AllReadyH.cons (o := _) rfl (fun K hK => ?_) ?_
              · go_simp
                refine (HA.out _).mono ?_
                rintro e w2 ⟨rfl, hb2⟩
                have R' := R.step hb2
                have BN' := BN.below hb2
                clear B1 B2 B3 B4 s0 s1 s2 s3 R BN hb2
                have R := R'
                have BN := BN'
                clear R' BN'
                obtain ⟨B1, B2, B3, B4⟩ := R.2
                obtain ⟨_, _, _, _, _, _, _⟩ := B1.three
                obtain ⟨_, _, _, _, _, _, _, _, _⟩ := B4.four
                obtain ⟨_, s0, s1, s2, s3, _, _, _, _⟩ := BN.four
                refine hK.out _ _ ⟨s0, s1, s2, s3⟩ (fun hHeld => ?_)
                clear hK K
                try simp only [Act.put, List.setIfInBounds_toArray, List.set_cons_zero, List.set_cons_succ]
                refine wpAnyH_ready (rs := [5]) (by kernel_rfl) (by simp) ?_
                refine AllReadyH.cons (o := _) rfl (fun K hK => ?_) ?_
                · go_simp
                  refine (HM.out _).mono ?_
                  rintro e w2 ⟨rfl, hb2⟩
                  have R' := R.step hb2
                  have BN' := BN.below hb2
                  clear B1 B2 B3 B4 s0 s1 s2 s3 R BN hb2
                  have R := R'
                  have BN := BN'
                  clear R' BN'
                  obtain ⟨B1, B2, B3, B4⟩ := R.2
                  obtain ⟨_, _, _, _, _, _, _⟩ := B1.three
                  obtain ⟨_, _, _, _, _, _, _, _, _⟩ := B4.four
                  obtain ⟨_, s0, s1, s2, s3, _, _, _, _⟩ := BN.four
                  refine hK.out _ _ ⟨s0, s1, s2, s3⟩ (fun hHeld => ?_)
                  clear hK K
                  try simp only [Act.put, List.setIfInBounds_toArray, List.set_cons_zero, List.set_cons_succ]
                  refine wpAnyH_ready (rs := [6]) (by kernel_rfl) (by simp) ?_
                  refine AllReadyH.cons (o := _) rfl (fun K hK => ?_) ?_
                  · go_simp
                    have R' := R.newF e1 e2 e3 x'.a x'.b x'.c
                    have BN' := ((BN.far (p := ⟨w.heap.size, 0, none⟩) d1 (.int .i64 x'.a)).far (p := ⟨w.heap.size, 1, none⟩) d1 (.int .i64 x'.b)).far (p := ⟨w.heap.size, 2, none⟩) d1 (.int .i64 x'.c)
                    generalize World.setCell _ ⟨w.heap.size, 2, none⟩ (.int .i64 x'.c) = w4 at R' BN' ⊢
                    clear B1 B2 B3 B4 s0 s1 s2 s3 R BN
                    have R := R'
                    have BN := BN'
                    clear R' BN'
                    obtain ⟨B1, B2, B3, B4⟩ := R.2
                    obtain ⟨_, _, _, _, _, _, _, _, _⟩ := B4.four
                    obtain ⟨_, s0, s1, s2, s3, _, _, _, _⟩ := BN.four
                    refine hK.out _ _ ⟨s0, s1, s2, s3⟩ (fun hHeld => ?_)
                    clear hK K
                    try simp only [Act.put, List.setIfInBounds_toArray, List.set_cons_zero, List.set_cons_succ]
                    refine wpAnyH_ready (rs := [7]) (by kernel_rfl) (by simp) ?_
                    refine AllReadyH.cons (o := _) rfl (fun K hK => ?_) ?_
                    · go_simp
                      have R' := R.newM l4 e3' e5' e6' x'.p x'.q x'.r x'.s
                      have BN' := (((BN.far (p := ⟨g4, 0, none⟩) d4 (.int .i64 x'.p)).far (p := ⟨g4, 1, none⟩) d4 (.int .i64 x'.q)).far (p := ⟨g4, 2, none⟩) d4 (.int .i64 x'.r)).far (p := ⟨g4, 3, none⟩) d4 (.int .i64 x'.s)
                      generalize World.setCell _ ⟨g4, 3, none⟩ (.int .i64 x'.s) = w5 at R' BN' ⊢
                      obtain ⟨_, s0, s1, s2, s3, _, _, _, _⟩ := BN'.four
                      refine hK.out _ _ ⟨s0, s1, s2, s3⟩ (fun hHeld => ?_)
                      clear hK K
                      try simp only [Act.put, List.setIfInBounds_toArray, List.set_cons_zero, List.set_cons_succ]
                      refine wpAnyH_done (by kernel_rfl) ?_ _
                      go_wp2
                      go_roundw
                      case rel => exact ⟨x', Lib.hid (HXX.out ▸ RS3.stepS_inv HI.out), Lib.hid (HXX.out ▸ HT.out.next_s HR.out HO.out), R'⟩
                      case measure =>
                        rw [muW_of R'.2.1, muW_of HB0.out, HXX.out]
                        exact RS3.stepS_mu HI.out.pos (RS3.c_pos HI.out.pos HI.out.dn) HR.out HO.out
                    exact AllReadyH.nil
                  exact AllReadyH.nil
                exact AllReadyH.nil
              exact AllReadyH.nil
            exact AllReadyH.nil
          exact AllReadyH.nil
    · have HR := Lib.hid hr
      have hyx := Lib.hid (HT.out.fin hr)
      clear hr
      go_wp2_with fail
      refine (red_t HI.out true HR.out _).mono ?_
      rintro e w1 ⟨rfl, hb1⟩
      have R := R.step hb1
      obtain ⟨B1, B2, B3, B4⟩ := R.2
      obtain ⟨_, _, _, _, _, _, _⟩ := B1.three
      obtain ⟨_, _, _, _, _, _, _⟩ := B2.three
      obtain ⟨_, _, _, _, _, _, _, _, _⟩ := B3.four
      obtain ⟨_, _, _, _, _, _, _, _, _⟩ := B4.four
      go_upto_region 8 with fail
      go_region_held3 (fun w' => w'.cell? ⟨w.heap.size, 0, none⟩ = some (.int .i64 x.a) ∧ w'.cell? ⟨w.heap.size, 1, none⟩ = some (.int .i64 x.b) ∧ w'.cell? ⟨w.heap.size, 2, none⟩ = some (.int .i64 x.c) ∧
          w'.cell? ⟨g4, 0, none⟩ = some (.int .i64 x.p) ∧ w'.cell? ⟨g4, 1, none⟩ = some (.int .i64 x.q) ∧ w'.cell? ⟨g4, 2, none⟩ = some (.int .i64 x.r) ∧ w'.cell? ⟨g4, 3, none⟩ = some (.int .i64 x.s)) (go_keep)
        (fail)
      all_goals
        go_wp2
        have R := R.res l2 l3 e4' (.int .i64 x.a) (.int .i64 x.b) (.int .i64 x.c) (.int .i64 x.p) (.int .i64 x.q) (.int .i64 x.r) (.int .i64 x.s)
        generalize World.setCell _ ⟨g3, 3, none⟩ (.int .i64 x.s) = W at R ⊢
        obtain ⟨T, q0, q1, q2, q3, q4, q5, q6⟩ := R
        have q0 : W.drew.cell? ⟨g2, 0, none⟩ = _ := q0
        have q1 : W.drew.cell? ⟨g2, 1, none⟩ = _ := q1
        have q2 : W.drew.cell? ⟨g2, 2, none⟩ = _ := q2
        have q3 : W.drew.cell? ⟨g3, 0, none⟩ = _ := q3
        have q4 : W.drew.cell? ⟨g3, 1, none⟩ = _ := q4
        have q5 : W.drew.cell? ⟨g3, 2, none⟩ = _ := q5
        have q6 : W.drew.cell? ⟨g3, 3, none⟩ = _ := q6
        exact bodyPost_ret (v := .tuple #[(.agg #[.int .i64 x.a, .int .i64 x.b, .int .i64 x.c]), (.agg #[.int .i64 x.p, .int .i64 x.q, .int .i64 x.r, .int .i64 x.s])]) (by simp [results, Tryd.results24, go_sem, q0, q1, q2, q3, q4, q5, q6]) rfl ⟨by rw [hyx.out], by first | exact T | exact own_drew T⟩
end Go.Proofs.YtfpgdbdgglbleaaDoor
