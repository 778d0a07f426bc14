/- spec.l05Down: contract. -/
import Derived.Test.YtfpgdbdgglbleaaDoorRedC
namespace Go.Proofs.YtfpgdbdgglbleaaDoor
open Go.ChangeShapes Go.WideShapes Go.ChangeAt Go.RowKit

/-- what the reduction's rounds keep -/
def RDI (w wr : World) (g2 g3 g4 : Nat) (a b c p q r s : Int) : Prop :=
  Below w.heap.size w wr ∧ Box wr w.heap.size [.int .i64 a, .int .i64 b, .int .i64 c] ∧ Box wr g2 [.int .i64 0, .int .i64 0, .int .i64 0] ∧ Box wr g3 [.int .i64 0, .int .i64 0, .int .i64 0, .int .i64 0] ∧ Box wr g4 [.int .i64 p, .int .i64 q, .int .i64 r, .int .i64 s]
section
variable {w wr w2 : World} {g2 g3 g4 : Nat} {a b c p q r s : Int}
theorem RDI.step (h : RDI w wr g2 g3 g4 a b c p q r s) (hb : Below wr.heap.size wr w2) : RDI w w2 g2 g3 g4 a b c p q r s :=
  ⟨own_trans h.1 hb, h.2.1.below hb, h.2.2.1.below hb, h.2.2.2.1.below hb, h.2.2.2.2.below hb⟩
theorem RDI.alloc (h : RDI w wr g2 g3 g4 a b c p q r s) (o : Obj) : RDI w (wr.alloc o) g2 g3 g4 a b c p q r s := h.step (own_alloc (own_refl wr) o)
theorem RDI.drewN (h : RDI w wr g2 g3 g4 a b c p q r s) (n : Nat) : RDI w (wr.drewN n) g2 g3 g4 a b c p q r s :=
  ⟨below_drewN' h.1 n, h.2.1, h.2.2.1, h.2.2.2.1, h.2.2.2.2⟩
theorem RDI.drew (h : RDI w wr g2 g3 g4 a b c p q r s) : RDI w wr.drew g2 g3 g4 a b c p q r s :=
  ⟨own_drew h.1, h.2.1, h.2.2.1, h.2.2.2.1, h.2.2.2.2⟩
/-- the form is stored anew -/
theorem RDI.newF (h : RDI w wr g2 g3 g4 a b c p q r s) (h2 : ¬ g2 = w.heap.size) (h3 : ¬ g3 = w.heap.size) (h4 : ¬ g4 = w.heap.size) (x y z : Int) :
    RDI w (((wr.setCell ⟨w.heap.size, 0, none⟩ (.int .i64 x)).setCell ⟨w.heap.size, 1, none⟩ (.int .i64 y)).setCell ⟨w.heap.size, 2, none⟩ (.int .i64 z)) g2 g3 g4 x y z p q r s :=
  have l0 := Nat.le_refl w.heap.size
  ⟨own_setCell (own_setCell (own_setCell h.1 l0 _) l0 _) l0 _, h.2.1.put3 _ _ _, ((h.2.2.1.far h2 _).far h2 _).far h2 _, ((h.2.2.2.1.far h3 _).far h3 _).far h3 _, ((h.2.2.2.2.far h4 _).far h4 _).far h4 _⟩
/-- the matrix is stored anew -/
theorem RDI.newM (h : RDI w wr g2 g3 g4 a b c p q r s) (l4 : w.heap.size ≤ g4) (h1 : ¬ w.heap.size = g4) (h2 : ¬ g2 = g4) (h3 : ¬ g3 = g4) (x y z u : Int) :
    RDI w ((((wr.setCell ⟨g4, 0, none⟩ (.int .i64 x)).setCell ⟨g4, 1, none⟩ (.int .i64 y)).setCell ⟨g4, 2, none⟩ (.int .i64 z)).setCell ⟨g4, 3, none⟩ (.int .i64 u)) g2 g3 g4 a b c x y z u :=
  ⟨own_setCell (own_setCell (own_setCell (own_setCell h.1 l4 _) l4 _) l4 _) l4 _, (((h.2.1.far h1 _).far h1 _).far h1 _).far h1 _, (((h.2.2.1.far h2 _).far h2 _).far h2 _).far h2 _, (((h.2.2.2.1.far h3 _).far h3 _).far h3 _).far h3 _, h.2.2.2.2.put4 _ _ _ _⟩
end
theorem RDI.res {w wr : World} {g2 g3 g4 : Nat} {a b c p q r s : Int} (h : RDI w wr g2 g3 g4 a b c p q r s) (l2 : w.heap.size ≤ g2) (l3 : w.heap.size ≤ g3) (e : ¬ g2 = g3) (y0 y1 y2 z0 z1 z2 z3 : Value) :
    Below w.heap.size w (((((((wr.setCell ⟨g2, 0, none⟩ y0).setCell ⟨g2, 1, none⟩ y1).setCell ⟨g2, 2, none⟩ y2).setCell ⟨g3, 0, none⟩ z0).setCell ⟨g3, 1, none⟩ z1).setCell ⟨g3, 2, none⟩ z2).setCell ⟨g3, 3, none⟩ z3) ∧
    (((((((wr.setCell ⟨g2, 0, none⟩ y0).setCell ⟨g2, 1, none⟩ y1).setCell ⟨g2, 2, none⟩ y2).setCell ⟨g3, 0, none⟩ z0).setCell ⟨g3, 1, none⟩ z1).setCell ⟨g3, 2, none⟩ z2).setCell ⟨g3, 3, none⟩ z3).cell? ⟨g2, 0, none⟩ = some y0 ∧
    (((((((wr.setCell ⟨g2, 0, none⟩ y0).setCell ⟨g2, 1, none⟩ y1).setCell ⟨g2, 2, none⟩ y2).setCell ⟨g3, 0, none⟩ z0).setCell ⟨g3, 1, none⟩ z1).setCell ⟨g3, 2, none⟩ z2).setCell ⟨g3, 3, none⟩ z3).cell? ⟨g2, 1, none⟩ = some y1 ∧
    (((((((wr.setCell ⟨g2, 0, none⟩ y0).setCell ⟨g2, 1, none⟩ y1).setCell ⟨g2, 2, none⟩ y2).setCell ⟨g3, 0, none⟩ z0).setCell ⟨g3, 1, none⟩ z1).setCell ⟨g3, 2, none⟩ z2).setCell ⟨g3, 3, none⟩ z3).cell? ⟨g2, 2, none⟩ = some y2 ∧
    (((((((wr.setCell ⟨g2, 0, none⟩ y0).setCell ⟨g2, 1, none⟩ y1).setCell ⟨g2, 2, none⟩ y2).setCell ⟨g3, 0, none⟩ z0).setCell ⟨g3, 1, none⟩ z1).setCell ⟨g3, 2, none⟩ z2).setCell ⟨g3, 3, none⟩ z3).cell? ⟨g3, 0, none⟩ = some z0 ∧
    (((((((wr.setCell ⟨g2, 0, none⟩ y0).setCell ⟨g2, 1, none⟩ y1).setCell ⟨g2, 2, none⟩ y2).setCell ⟨g3, 0, none⟩ z0).setCell ⟨g3, 1, none⟩ z1).setCell ⟨g3, 2, none⟩ z2).setCell ⟨g3, 3, none⟩ z3).cell? ⟨g3, 1, none⟩ = some z1 ∧
    (((((((wr.setCell ⟨g2, 0, none⟩ y0).setCell ⟨g2, 1, none⟩ y1).setCell ⟨g2, 2, none⟩ y2).setCell ⟨g3, 0, none⟩ z0).setCell ⟨g3, 1, none⟩ z1).setCell ⟨g3, 2, none⟩ z2).setCell ⟨g3, 3, none⟩ z3).cell? ⟨g3, 2, none⟩ = some z2 ∧
    (((((((wr.setCell ⟨g2, 0, none⟩ y0).setCell ⟨g2, 1, none⟩ y1).setCell ⟨g2, 2, none⟩ y2).setCell ⟨g3, 0, none⟩ z0).setCell ⟨g3, 1, none⟩ z1).setCell ⟨g3, 2, none⟩ z2).setCell ⟨g3, 3, none⟩ z3).cell? ⟨g3, 3, none⟩ = some z3 := by
  have k2 := ((((h.2.2.1.put3 y0 y1 y2).far (p := ⟨g3, 0, none⟩) e z0).far (p := ⟨g3, 1, none⟩) e z1).far (p := ⟨g3, 2, none⟩) e z2).far (p := ⟨g3, 3, none⟩) e z3
  have e' : ¬ g3 = g2 := fun k => e k.symm
  have k3 := (((h.2.2.2.1.far (p := ⟨g2, 0, none⟩) e' y0).far (p := ⟨g2, 1, none⟩) e' y1).far (p := ⟨g2, 2, none⟩) e' y2).put4 z0 z1 z2 z3
  obtain ⟨_, a0, a1, a2, _⟩ := k2.three
  obtain ⟨_, b0, b1, b2, b3, _⟩ := k3.four
  exact ⟨own_setCell (own_setCell (own_setCell (own_setCell (own_setCell (own_setCell (own_setCell h.1 l2 _) l2 _) l2 _) l3 _) l3 _) l3 _) l3 _, a0, a1, a2, b0, b1, b2, b3⟩

set_option maxHeartbeats 8000000 in
theorem l05Down_is (a b c : Int) (y : RS3) (ha : FE a) (hb : FE b) (hc : FE c) (hp : 0 < a) (hd : disc a b c < 0) (hy : RS3.To (RS3.start a b c) y) (w : World) :
    Calls Tryd.prog 21 #[(.agg #[.int .i64 a, .int .i64 b, .int .i64 c])] w fun e w' => e = .returned (.tuple #[(.agg #[.int .i64 y.a, .int .i64 y.b, .int .i64 y.c]), (.agg #[.int .i64 y.p, .int .i64 y.q, .int .i64 y.r, .int .i64 y.s])]) ∧ Below w.heap.size w w' := by
  have HF := Lib.hid (show FE a ∧ FE c ∧ 0 < a ∧ disc a b c < 0 from ⟨ha, hc, hp, hd⟩)
  have HS := Lib.hid (RS3.start_inv ha hb hc hp hd)
  have HY := Lib.hid hy
  clear ha hb hc hp hd hy
  go_enter Tryd.func21, Tryd.ntmps21
  go_wp2
  obtain ⟨g2, hg2⟩ : ∃ g, w.heap.size + 1 = g := ⟨_, rfl⟩
  obtain ⟨g3, hg3⟩ : ∃ g, g2 + 1 = g := ⟨_, rfl⟩
  obtain ⟨g4, hg4⟩ : ∃ g, g3 + 1 = g := ⟨_, rfl⟩
  have G2 := Lib.hid hg2
  have G3 := Lib.hid hg3
  have G4 := Lib.hid hg4
  have e1 : ¬ (g2 = w.heap.size) := by omega
  have e2 : ¬ (g3 = w.heap.size) := by omega
  have e3 : ¬ (g4 = w.heap.size) := by omega
  have e4 : ¬ (g3 = g2) := by omega
  have e5 : ¬ (g4 = g2) := by omega
  have e6 : ¬ (g4 = g3) := by omega
  have e1' : ¬ (w.heap.size = g2) := by omega
  have e2' : ¬ (w.heap.size = g3) := by omega
  have e3' : ¬ (w.heap.size = g4) := by omega
  have e4' : ¬ (g2 = g3) := by omega
  have e5' : ¬ (g2 = g4) := by omega
  have e6' : ¬ (g3 = g4) := by omega
  have l2 : w.heap.size ≤ g2 := by omega
  have l3 : w.heap.size ≤ g3 := by omega
  have l4 : w.heap.size ≤ g4 := by omega
  simp only [hg2, hg3, hg4]
  clear hg2 hg3 hg4
  go_loopw [9] (fun _ wr => ∃ x : RS3, Hid (RS3.Inv a b c x) ∧ Hid (RS3.To x y) ∧ RDI w wr g2 g3 g4 x.a x.b x.c x.p x.q x.r x.s) (fun _ wr => muW wr w.heap.size)
  case atStart =>
    refine ⟨RS3.start a b c, HS, HY, by repeat (first | with_reducible exact own_refl _ | with_reducible assumption | with_reducible apply own_alloc | with_reducible apply own_drewN | with_reducible apply own_drew | ((with_reducible refine own_setCell ?_ ?_ _); rotate_left; focus (first | (simp; done) | (simp; omega))) | (with_reducible (refine own_trans ?_ (by assumption)))), ?_, ?_, ?_, ?_⟩
    · exact Box.alloc (Box.alloc (Box.alloc (Box.new _ _ _) _) _) _
    · exact Box.alloc (Box.alloc (Box.newAt (by simp [← G2.out]) _ _) _) _
    · exact Box.alloc (Box.newAt (by simp [← G3.out, ← G2.out]) _ _) _
    · exact Box.newAt (by simp [← G4.out, ← G3.out, ← G2.out]) _ _
  case round =>
    obtain ⟨x, HI, HT, R⟩ := hrel
    obtain ⟨B1, B2, B3, B4⟩ := R.2
    have HB0 := Lib.hid B1
    obtain ⟨_, _, _, _, _, _, _⟩ := B1.three
    rcases hr : x.red with _ | _
    · have HR := Lib.hid hr
      have ka : -1000000 ≤ x.a ∧ x.a ≤ 1000000 := HI.out.fa
      have kb : -1000000 ≤ x.b ∧ x.b ≤ 1000000 := HI.out.fb
      clear hr
      by_cases ho : x.out
      · have HX : Hid (∃ x', x' = x.stepT) := Lib.hid ⟨_, rfl⟩
        have HO := Lib.hid ho
        unfold RS3.out at ho
        rcases (show x.b ≤ -x.a ∨ (¬ x.b ≤ -x.a ∧ x.a < x.b) by omega) with ho1 | ⟨ho1, ho2⟩
        all_goals
          clear ho
          go_wp2_with fail
          refine (sred_t HI.out false HR.out _).mono ?_
          rintro e w1 ⟨rfl, hb1⟩
          have R := R.step hb1
          obtain ⟨B1, B2, B3, B4⟩ := R.2
          obtain ⟨_, _, _, _, _, _, _⟩ := B1.three
          have n1 := B1.1
          have n2 := B2.1
          have n3 := B3.1
          have n4 := B4.1
          go_wp2_with fail
          refine (sfloor_t HI.out _).mono ?_
          rintro e w2 ⟨rfl, rfl⟩
          go_upto_region 6 with fail
          have BN : Box (w1.alloc (.cells #[.int .i64 1, .int .i64 x.kk, .int .i64 0, .int .i64 1] 27)) w1.heap.size [.int .i64 1, .int .i64 x.kk, .int .i64 0, .int .i64 1] := Box.new _ _ _
          have R := R.alloc (.cells #[.int .i64 1, .int .i64 x.kk, .int .i64 0, .int .i64 1] 27)
          generalize w1.alloc (.cells #[.int .i64 1, .int .i64 x.kk, .int .i64 0, .int .i64 1] 27) = wz at R BN ⊢
          obtain ⟨g5, hg5⟩ : ∃ g, w1.heap.size = g := ⟨_, rfl⟩
          rw [hg5] at n1 n2 n3 n4 BN
          simp only [hg5]
          clear hg5 B1 B2 B3 B4 hb1
          have d1 : ¬ (g5 = w.heap.size) := by omega
          have d2 : ¬ (g5 = g2) := by omega
          have d3 : ¬ (g5 = g3) := by omega
          have d4 : ¬ (g5 = g4) := by omega
          have d1' : ¬ (w.heap.size = g5) := by omega
          have d4' : ¬ (g4 = g5) := by omega
          obtain ⟨x', hx'⟩ := HX.out
          have HXX := Lib.hid hx'
          have HA := Lib.hid (fun w => apply_t HI.out hx' w)
          have HM := Lib.hid (fun w => times_t HF.out.1 HF.out.2.1 HF.out.2.2.1 HF.out.2.2.2 HI.out HO.out hx' w)
          clear hx'
          obtain ⟨B1, B2, B3, B4⟩ := R.2
          obtain ⟨_, _, _, _, _, _, _⟩ := B1.three
          obtain ⟨_, _, _, _, _, _, _, _, _⟩ := BN.four
          go_wp2_with fail
          refine (HA.out _).mono ?_
          rintro e w3 ⟨rfl, hb3⟩
          have R := R.step hb3
          have BN := BN.below hb3
          clear B1 B2 B3 B4
          obtain ⟨B1, B2, B3, B4⟩ := R.2
          obtain ⟨_, _, _, _, _, _, _⟩ := B1.three
          go_upto_region 7 with fail
          have R := R.newF e1 e2 e3 x'.a x'.b x'.c
          have BN := ((BN.far (p := ⟨w.heap.size, 0, none⟩) d1 (.int .i64 x'.a)).far (p := ⟨w.heap.size, 1, none⟩) d1 (.int .i64 x'.b)).far (p := ⟨w.heap.size, 2, none⟩) d1 (.int .i64 x'.c)
          generalize World.setCell _ ⟨w.heap.size, 2, none⟩ (.int .i64 x'.c) = w4 at R BN ⊢
          clear B1 B2 B3 B4
          obtain ⟨B1, B2, B3, B4⟩ := R.2
          obtain ⟨_, _, _, _, _, _, _, _, _⟩ := B4.four
          obtain ⟨_, _, _, _, _, _, _, _, _⟩ := BN.four
          go_wp2_with fail
          refine (HM.out _).mono ?_
          rintro e w5 ⟨rfl, hb5⟩
          have R := R.step hb5
          clear B1 B2 B3 B4
          obtain ⟨B1, B2, B3, B4⟩ := R.2
          obtain ⟨_, _, _, _, _, _, _, _, _⟩ := B4.four
          go_wp2
          go_roundw
          case rel => exact ⟨x', Lib.hid (HXX.out ▸ RS3.stepT_inv HI.out HO.out), Lib.hid (HXX.out ▸ HT.out.next_t HR.out HO.out), R.newM l4 e3' e5' e6' _ _ _ _⟩
          case measure =>
            rw [muW_of (R.newM l4 e3' e5' e6' x'.p x'.q x'.r x'.s).2.1, muW_of HB0.out, HXX.out]
            exact RS3.stepT_mu HI.out.pos HI.out.fa HI.out.fb HO.out
      · have HX : Hid (∃ x', x' = x.stepS) := Lib.hid ⟨_, rfl⟩
        have HO := Lib.hid ho
        unfold RS3.out at ho
        obtain ⟨ho1, ho2⟩ : ¬ x.b ≤ -x.a ∧ ¬ x.a < x.b := by omega
        clear ho
        focus
          go_wp2_with fail
          refine (sred_t HI.out false HR.out _).mono ?_
          rintro e w1 ⟨rfl, hb1⟩
          have R := R.step hb1
          clear B1 B2 B3 B4
          obtain ⟨B1, B2, B3, B4⟩ := R.2
          obtain ⟨_, _, _, _, _, _, _⟩ := B1.three
          have n1 := B1.1
          have n2 := B2.1
          have n3 := B3.1
          have n4 := B4.1
          go_upto_region 6 with fail
          have BN : Box (w1.alloc (.cells #[.int .i64 0, .int .i64 (-1), .int .i64 1, .int .i64 0] 27)) w1.heap.size [.int .i64 0, .int .i64 (-1), .int .i64 1, .int .i64 0] := Box.new _ _ _
          have R := R.alloc (.cells #[.int .i64 0, .int .i64 (-1), .int .i64 1, .int .i64 0] 27)
          generalize w1.alloc (.cells #[.int .i64 0, .int .i64 (-1), .int .i64 1, .int .i64 0] 27) = wz at R BN ⊢
          obtain ⟨g5, hg5⟩ : ∃ g, w1.heap.size = g := ⟨_, rfl⟩
          rw [hg5] at n1 n2 n3 n4 BN
          simp only [hg5]
          clear hg5 B1 B2 B3 B4 hb1
          have d1 : ¬ (g5 = w.heap.size) := by omega
          have d2 : ¬ (g5 = g2) := by omega
          have d3 : ¬ (g5 = g3) := by omega
          have d4 : ¬ (g5 = g4) := by omega
          have d1' : ¬ (w.heap.size = g5) := by omega
          have d4' : ¬ (g4 = g5) := by omega
          obtain ⟨x', hx'⟩ := HX.out
          have HXX := Lib.hid hx'
          have HA := Lib.hid (fun w => apply_s HI.out hx' w)
          have HM := Lib.hid (fun w => times_s HF.out.1 HF.out.2.1 HF.out.2.2.1 HF.out.2.2.2 HI.out hx' w)
          clear hx'
          obtain ⟨B1, B2, B3, B4⟩ := R.2
          obtain ⟨_, _, _, _, _, _, _⟩ := B1.three
          obtain ⟨_, _, _, _, _, _, _, _, _⟩ := BN.four
          go_wp2_with fail
          refine (HA.out _).mono ?_
          rintro e w3 ⟨rfl, hb3⟩
          have R := R.step hb3
          have BN := BN.below hb3
          clear B1 B2 B3 B4
          obtain ⟨B1, B2, B3, B4⟩ := R.2
          obtain ⟨_, _, _, _, _, _, _⟩ := B1.three
          go_upto_region 7 with fail
          have R := R.newF e1 e2 e3 x'.a x'.b x'.c
          have BN := ((BN.far (p := ⟨w.heap.size, 0, none⟩) d1 (.int .i64 x'.a)).far (p := ⟨w.heap.size, 1, none⟩) d1 (.int .i64 x'.b)).far (p := ⟨w.heap.size, 2, none⟩) d1 (.int .i64 x'.c)
          generalize World.setCell _ ⟨w.heap.size, 2, none⟩ (.int .i64 x'.c) = w4 at R BN ⊢
          clear B1 B2 B3 B4
          obtain ⟨B1, B2, B3, B4⟩ := R.2
          obtain ⟨_, _, _, _, _, _, _, _, _⟩ := B4.four
          obtain ⟨_, _, _, _, _, _, _, _, _⟩ := BN.four
          go_wp2_with fail
          refine (HM.out _).mono ?_
          rintro e w5 ⟨rfl, hb5⟩
          have R := R.step hb5
          clear B1 B2 B3 B4
          obtain ⟨B1, B2, B3, B4⟩ := R.2
          obtain ⟨_, _, _, _, _, _, _, _, _⟩ := B4.four
          go_wp2
          go_roundw
          case rel => exact ⟨x', Lib.hid (HXX.out ▸ RS3.stepS_inv HI.out), Lib.hid (HXX.out ▸ HT.out.next_s HR.out HO.out), R.newM l4 e3' e5' e6' _ _ _ _⟩
          case measure =>
            rw [muW_of (R.newM l4 e3' e5' e6' x'.p x'.q x'.r x'.s).2.1, muW_of HB0.out, HXX.out]
            exact RS3.stepS_mu HI.out.pos (RS3.c_pos HI.out.pos HI.out.dn) HR.out HO.out
    · have HR := Lib.hid hr
      have hyx := Lib.hid (HT.out.fin hr)
      clear hr
      go_wp2_with fail
      refine (sred_t HI.out true HR.out _).mono ?_
      rintro e w1 ⟨rfl, hb1⟩
      have R := R.step hb1
      obtain ⟨B1, B2, B3, B4⟩ := R.2
      obtain ⟨_, _, _, _, _, _, _⟩ := B1.three
      obtain ⟨_, _, _, _, _, _, _⟩ := B2.three
      obtain ⟨_, _, _, _, _, _, _, _, _⟩ := B3.four
      obtain ⟨_, _, _, _, _, _, _, _, _⟩ := B4.four
      go_upto_region 8 with fail
      go_region_held3 (fun w' => w'.cell? ⟨w.heap.size, 0, none⟩ = some (.int .i64 x.a) ∧ w'.cell? ⟨w.heap.size, 1, none⟩ = some (.int .i64 x.b) ∧ w'.cell? ⟨w.heap.size, 2, none⟩ = some (.int .i64 x.c) ∧
          w'.cell? ⟨g4, 0, none⟩ = some (.int .i64 x.p) ∧ w'.cell? ⟨g4, 1, none⟩ = some (.int .i64 x.q) ∧ w'.cell? ⟨g4, 2, none⟩ = some (.int .i64 x.r) ∧ w'.cell? ⟨g4, 3, none⟩ = some (.int .i64 x.s)) (go_keep)
        (fail)
      all_goals
        go_wp2
        have R := R.res l2 l3 e4' (.int .i64 x.a) (.int .i64 x.b) (.int .i64 x.c) (.int .i64 x.p) (.int .i64 x.q) (.int .i64 x.r) (.int .i64 x.s)
        generalize World.setCell _ ⟨g3, 3, none⟩ (.int .i64 x.s) = W at R ⊢
        obtain ⟨T, q0, q1, q2, q3, q4, q5, q6⟩ := R
        have q0 : W.drew.cell? ⟨g2, 0, none⟩ = _ := q0
        have q1 : W.drew.cell? ⟨g2, 1, none⟩ = _ := q1
        have q2 : W.drew.cell? ⟨g2, 2, none⟩ = _ := q2
        have q3 : W.drew.cell? ⟨g3, 0, none⟩ = _ := q3
        have q4 : W.drew.cell? ⟨g3, 1, none⟩ = _ := q4
        have q5 : W.drew.cell? ⟨g3, 2, none⟩ = _ := q5
        have q6 : W.drew.cell? ⟨g3, 3, none⟩ = _ := q6
        exact bodyPost_ret (v := .tuple #[(.agg #[.int .i64 x.a, .int .i64 x.b, .int .i64 x.c]), (.agg #[.int .i64 x.p, .int .i64 x.q, .int .i64 x.r, .int .i64 x.s])]) (by simp [results, Tryd.results21, go_sem, q0, q1, q2, q3, q4, q5, q6]) rfl ⟨by rw [hyx.out], by first | exact T | exact own_drew T⟩
end Go.Proofs.YtfpgdbdgglbleaaDoor
