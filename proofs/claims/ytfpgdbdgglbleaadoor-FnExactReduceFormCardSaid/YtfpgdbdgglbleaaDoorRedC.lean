/- Contracts of one step of the reduction, on both sides. -/
import Derived.Test.YtfpgdbdgglbleaaDoorRed
import Derived.Test.YtfpgdbdgglbleaaDoorFl
import Derived.Test.YtfpgdbdgglbleaaDoorCf
import Derived.Test.YtfpgdbdgglbleaaDoorMul
import Derived.Test.YtfpgdbdgglbleaaDoorRdS
import Derived.Test.YtfpgdbdgglbleaaDoorRdI
namespace Go.Proofs.YtfpgdbdgglbleaaDoor
open Go.ChangeShapes Go.WideShapes Go.ChangeAt Go.RowKit

/-- The integers of a block, and the measure of a form in memory. -/
def celI (w : World) (g o : Nat) : Int := match w.cell? ⟨g, o, none⟩ with
  | some v => intOf v
  | none => 0
def muW (w : World) (g : Nat) : Nat := RS3.mu ⟨celI w g 0, celI w g 1, celI w g 2, 0, 0, 0, 0⟩
theorem muW_of {w : World} {g : Nat} {x : RS3} (h : Box w g [.int .i64 x.a, .int .i64 x.b, .int .i64 x.c]) : muW w g = x.mu := by
  obtain ⟨_, h0, h1, h2, _⟩ := h.three
  have e0 : celI w g 0 = x.a := by unfold celI; rw [h0]; rfl
  have e1 : celI w g 1 = x.b := by unfold celI; rw [h1]; rfl
  have e2 : celI w g 2 = x.c := by unfold celI; rw [h2]; rfl
  unfold muW
  rw [e0, e1, e2]
  rfl

section
variable {a0 b0 c0 : Int} {x x' : RS3}
theorem made_t (hi : RS3.Inv a0 b0 c0 x) (hx : x' = x.stepT) (w : World) :
    Calls Tryd.prog 42 #[(.agg #[.int .i64 1, .int .i64 x.kk, .int .i64 0, .int .i64 1]), (.agg #[.int .i64 x.a, .int .i64 x.b, .int .i64 x.c])] w fun e w' => e = .returned (.agg #[.int .i64 x'.a, .int .i64 x'.b, .int .i64 x'.c]) ∧ Below w.heap.size w w' := by
  subst hx
  have hk := (RS3.kk_bd hi.pos hi.fa hi.fb).1
  exact formMadeBy_is _ _ _ x.a x.b x.c 1 x.kk 0 1 (by unfold vq RS3.stepT; simp) (by unfold mq RS3.stepT; simp) (by unfold vq RS3.stepT; simp) hi.fa hi.fb hi.fc (by decide) hk (by decide) (by decide) w
theorem made_s (hi : RS3.Inv a0 b0 c0 x) (hx : x' = x.stepS) (w : World) :
    Calls Tryd.prog 42 #[(.agg #[.int .i64 0, .int .i64 (-1), .int .i64 1, .int .i64 0]), (.agg #[.int .i64 x.a, .int .i64 x.b, .int .i64 x.c])] w fun e w' => e = .returned (.agg #[.int .i64 x'.a, .int .i64 x'.b, .int .i64 x'.c]) ∧ Below w.heap.size w w' := by
  subst hx
  exact formMadeBy_is _ _ _ x.a x.b x.c 0 (-1) 1 0 (by unfold vq RS3.stepS; simp) (by unfold mq RS3.stepS; simp) (by unfold vq RS3.stepS; simp) hi.fa hi.fb hi.fc (by decide) (by decide) (by decide) (by decide) w
theorem apply_t (hi : RS3.Inv a0 b0 c0 x) (hx : x' = x.stepT) (w : World) :
    Calls Tryd.prog 36 #[(.agg #[.int .i64 x.a, .int .i64 x.b, .int .i64 x.c]), (.agg #[.int .i64 1, .int .i64 x.kk, .int .i64 0, .int .i64 1])] w fun e w' => e = .returned (.agg #[.int .i64 x'.a, .int .i64 x'.b, .int .i64 x'.c]) ∧ Below w.heap.size w w' := by
  subst hx
  have hk := (RS3.kk_bd hi.pos hi.fa hi.fb).1
  exact l05Apply_is _ _ _ x.a x.b x.c 1 x.kk 0 1 (by unfold vq RS3.stepT; simp) (by unfold mq RS3.stepT; simp) (by unfold vq RS3.stepT; simp) hi.fa hi.fb hi.fc (by decide) hk (by decide) (by decide) w
theorem apply_s (hi : RS3.Inv a0 b0 c0 x) (hx : x' = x.stepS) (w : World) :
    Calls Tryd.prog 36 #[(.agg #[.int .i64 x.a, .int .i64 x.b, .int .i64 x.c]), (.agg #[.int .i64 0, .int .i64 (-1), .int .i64 1, .int .i64 0])] w fun e w' => e = .returned (.agg #[.int .i64 x'.a, .int .i64 x'.b, .int .i64 x'.c]) ∧ Below w.heap.size w w' := by
  subst hx
  exact l05Apply_is _ _ _ x.a x.b x.c 0 (-1) 1 0 (by unfold vq RS3.stepS; simp) (by unfold mq RS3.stepS; simp) (by unfold vq RS3.stepS; simp) hi.fa hi.fb hi.fc (by decide) (by decide) (by decide) (by decide) w
theorem ent2m {v : Int} (h : -2000000 ≤ v ∧ v ≤ 2000000) : Ent v := by unfold Ent; omega
variable (ha0 : FE a0) (hc0 : FE c0) (hp0 : 0 < a0) (hd : disc a0 b0 c0 < 0)
include ha0 hc0 hp0 hd
theorem mul_t (hi : RS3.Inv a0 b0 c0 x) (hx : x' = x.stepT) (w : World) :
    Calls Tryd.prog 43 #[(.agg #[.int .i64 x.p, .int .i64 x.q, .int .i64 x.r, .int .i64 x.s]), (.agg #[.int .i64 1, .int .i64 x.kk, .int .i64 0, .int .i64 1])] w fun e w' => e = .returned (.agg #[.int .i64 x'.p, .int .i64 x'.q, .int .i64 x'.r, .int .i64 x'.s]) ∧ Below w.heap.size w w' := by
  subst hx
  have hk := (RS3.kk_bd hi.pos hi.fa hi.fb).1
  obtain ⟨h1, h2, h3, h4⟩ := hi.ent ha0 hc0 hp0 hd
  have h := multiply_ent x.p x.q x.r x.s 1 x.kk 0 1 (ent2m h1) (ent2m h2) (ent2m h3) (ent2m h4) (by decide) (by unfold FE at hk; unfold Ent; omega) (by decide) (by decide) w
  simp only [Int.mul_one, Int.mul_zero, Int.add_zero] at h
  exact h
theorem mul_s (hi : RS3.Inv a0 b0 c0 x) (hx : x' = x.stepS) (w : World) :
    Calls Tryd.prog 43 #[(.agg #[.int .i64 x.p, .int .i64 x.q, .int .i64 x.r, .int .i64 x.s]), (.agg #[.int .i64 0, .int .i64 (-1), .int .i64 1, .int .i64 0])] w fun e w' => e = .returned (.agg #[.int .i64 x'.p, .int .i64 x'.q, .int .i64 x'.r, .int .i64 x'.s]) ∧ Below w.heap.size w w' := by
  subst hx
  obtain ⟨h1, h2, h3, h4⟩ := hi.ent ha0 hc0 hp0 hd
  have h := multiply_ent x.p x.q x.r x.s 0 (-1) 1 0 (ent2m h1) (ent2m h2) (ent2m h3) (ent2m h4) (by decide) (by decide) (by decide) (by decide) w
  simp only [Int.mul_one, Int.mul_zero, Int.add_zero, Int.zero_add, Int.mul_neg] at h
  exact h
theorem times_t (hi : RS3.Inv a0 b0 c0 x) (ho : x.out) (hx : x' = x.stepT) (w : World) :
    Calls Tryd.prog 37 #[(.agg #[.int .i64 x.p, .int .i64 x.q, .int .i64 x.r, .int .i64 x.s]), (.agg #[.int .i64 1, .int .i64 x.kk, .int .i64 0, .int .i64 1])] w fun e w' => e = .returned (.tuple #[(.agg #[.int .i64 x'.p, .int .i64 x'.q, .int .i64 x'.r, .int .i64 x'.s]), .bool true]) ∧ Below w.heap.size w w' := by
  subst hx
  have hk := (RS3.kk_bd hi.pos hi.fa hi.fb).1
  obtain ⟨h1, h2, h3, h4⟩ := hi.ent ha0 hc0 hp0 hd
  obtain ⟨k1, k2, k3, k4⟩ := (RS3.stepT_inv hi ho).ent ha0 hc0 hp0 hd
  have h := times_yes x.p x.q x.r x.s 1 x.kk 0 1 (ent2m h1) (ent2m h2) (ent2m h3) (ent2m h4) (by decide) (by unfold FE at hk; unfold Ent; omega) (by decide) (by decide) (by
    simp only [Int.mul_one, Int.mul_zero, Int.add_zero]
    exact okE_true.2 ⟨ent_iff.2 (ent2m k1), ent_iff.2 (ent2m k2), ent_iff.2 (ent2m k3), ent_iff.2 (ent2m k4)⟩) w
  simp only [Int.mul_one, Int.mul_zero, Int.add_zero] at h
  exact h
theorem times_s (hi : RS3.Inv a0 b0 c0 x) (hx : x' = x.stepS) (w : World) :
    Calls Tryd.prog 37 #[(.agg #[.int .i64 x.p, .int .i64 x.q, .int .i64 x.r, .int .i64 x.s]), (.agg #[.int .i64 0, .int .i64 (-1), .int .i64 1, .int .i64 0])] w fun e w' => e = .returned (.tuple #[(.agg #[.int .i64 x'.p, .int .i64 x'.q, .int .i64 x'.r, .int .i64 x'.s]), .bool true]) ∧ Below w.heap.size w w' := by
  subst hx
  obtain ⟨h1, h2, h3, h4⟩ := hi.ent ha0 hc0 hp0 hd
  obtain ⟨k1, k2, k3, k4⟩ := (RS3.stepS_inv hi).ent ha0 hc0 hp0 hd
  have h := times_yes x.p x.q x.r x.s 0 (-1) 1 0 (ent2m h1) (ent2m h2) (ent2m h3) (ent2m h4) (by decide) (by decide) (by decide) (by decide) (by
    simp only [Int.mul_one, Int.mul_zero, Int.add_zero, Int.zero_add, Int.mul_neg]
    exact okE_true.2 ⟨ent_iff.2 (ent2m k1), ent_iff.2 (ent2m k2), ent_iff.2 (ent2m k3), ent_iff.2 (ent2m k4)⟩) w
  simp only [Int.mul_one, Int.mul_zero, Int.add_zero, Int.zero_add, Int.mul_neg] at h
  exact h
end
section
variable {a0 b0 c0 : Int} {x : RS3}
theorem kk_fl (hi : RS3.Inv a0 b0 c0 x) : fl (x.a - x.b) (2 * x.a) = x.kk := by
  have := hi.pos
  unfold fl RS3.kk
  rw [if_neg (by omega)]
theorem floor_t (hi : RS3.Inv a0 b0 c0 x) (w : World) : Calls Tryd.prog 41 #[(.int .i64 (x.a - x.b)), (.int .i64 (2 * x.a))] w fun e w' => e = .returned (.int .i64 x.kk) ∧ w = w' := by
  have h1 := hi.fa; have h2 := hi.fb; have h3 := hi.pos
  unfold FE at h1 h2
  exact implFlC_is _ _ _ (kk_fl hi) (by unfold Sm; omega) (by unfold Sm; omega) (by omega) w
theorem sfloor_t (hi : RS3.Inv a0 b0 c0 x) (w : World) : Calls Tryd.prog 35 #[(.int .i64 (x.a - x.b)), (.int .i64 (2 * x.a))] w fun e w' => e = .returned (.int .i64 x.kk) ∧ w = w' := by
  have h1 := hi.fa; have h2 := hi.fb; have h3 := hi.pos
  unfold FE at h1 h2
  exact floorE_is _ _ _ (kk_fl hi) (by omega) (by unfold Ent; omega) (by unfold Ent; omega) w
theorem red_t (hi : RS3.Inv a0 b0 c0 x) (t : Bool) (ht : x.red = t) (w : World) : Calls Tryd.prog 39 #[(.agg #[.int .i64 x.a, .int .i64 x.b, .int .i64 x.c])] w fun e w' => e = .returned (.bool t) ∧ Below w.heap.size w w' :=
  isRD_is t x.a x.b x.c hi.dn hi.pos ht hi.fa hi.fb hi.fc w
theorem sred_t (hi : RS3.Inv a0 b0 c0 x) (t : Bool) (ht : x.red = t) (w : World) : Calls Tryd.prog 34 #[(.agg #[.int .i64 x.a, .int .i64 x.b, .int .i64 x.c])] w fun e w' => e = .returned (.bool t) ∧ Below w.heap.size w w' :=
  l05Red_D t x.a x.b x.c hi.dn hi.pos ht hi.fa hi.fb hi.fc w
end
end Go.Proofs.YtfpgdbdgglbleaaDoor
