/- The reduction of definite forms, as numbers: steps, what they keep, and that they come to an end. -/
import Derived.Test.YtfpgdbdgglbleaaDoorRdq
namespace Go.Proofs.YtfpgdbdgglbleaaDoor
open Go.ChangeShapes Go.WideShapes Go.ChangeAt Go.RowKit

/-- a form on its way, and the matrix that makes it -/
structure RS3 where
  a : Int
  b : Int
  c : Int
  p : Int
  q : Int
  r : Int
  s : Int
namespace RS3
def kk (x : RS3) : Int := (x.a - x.b) / (2 * x.a)
def stepT (x : RS3) : RS3 := ⟨x.a, 2 * x.a * x.kk + x.b, x.a * x.kk * x.kk + x.b * x.kk + x.c, x.p, x.p * x.kk + x.q, x.r, x.r * x.kk + x.s⟩
def stepS (x : RS3) : RS3 := ⟨x.c, -x.b, x.a, x.q, -x.p, x.s, -x.r⟩
def red (x : RS3) : Bool := redD x.a x.b x.c
/-- b is not in -a + 1..a -/
def out (x : RS3) : Prop := x.b ≤ -x.a ∨ x.a < x.b
instance (x : RS3) : Decidable x.out := inferInstanceAs (Decidable (_ ∨ _))
def mu (x : RS3) : Nat := 4 * x.a.toNat + (if x.out then 2 else 0) + (if x.b < 0 then 1 else 0)
structure Inv (a0 b0 c0 : Int) (x : RS3) : Prop where
  fa : FE x.a
  fb : FE x.b
  fc : FE x.c
  pos : 0 < x.a
  dn : disc x.a x.b x.c < 0
  ea : x.a = vq a0 b0 c0 x.p x.r
  eb : x.b = mq a0 b0 c0 x.p x.q x.r x.s
  ec : x.c = vq a0 b0 c0 x.q x.s

theorem c_pos {a b c : Int} (ha : 0 < a) (hd : disc a b c < 0) : 0 < c := by
  have h1 := mul_self_nn b
  have e : 4 * a * c = 4 * (a * c) := Int.mul_assoc _ _ _
  unfold disc at hd
  rcases Int.lt_or_le 0 c with h | h
  · exact h
  · have := Int.mul_nonneg_of_nonpos_of_nonpos (show -a ≤ 0 by omega) h
    rw [Int.neg_mul] at this
    omega
theorem sq_bd {r : Int} (h : r * r ≤ 4000000000000) : -2000000 ≤ r ∧ r ≤ 2000000 := by
  constructor
  · rcases Int.lt_or_le r (-2000000) with h1 | h1
    · have := Int.mul_le_mul (show (2000001 : Int) ≤ -r by omega) (show (2000001 : Int) ≤ -r by omega) (by omega) (by omega)
      rw [Int.neg_mul_neg] at this
      omega
    · exact h1
  · rcases Int.lt_or_le 2000000 r with h1 | h1
    · have := Int.mul_le_mul (show (2000001 : Int) ≤ r by omega) (show (2000001 : Int) ≤ r by omega) (by omega) (by omega)
      omega
    · exact h1
/-- A definite form with small numbers has great values at great places. -/
theorem place_bd {a0 b0 c0 p r v : Int} (ha0 : FE a0) (_ : 0 < a0) (hd : disc a0 b0 c0 < 0) (hv : vq a0 b0 c0 p r = v) (hb : FE v) : -2000000 ≤ r ∧ r ≤ 2000000 := by
  apply sq_bd
  have e : 4 * a0 * v = (2 * a0 * p + b0 * r) * (2 * a0 * p + b0 * r) + (-(disc a0 b0 c0)) * (r * r) := by subst hv; unfold vq disc; grind
  have h1 := mul_self_nn (2 * a0 * p + b0 * r)
  have h2 := mul_self_nn r
  have h3 := Int.mul_le_mul_of_nonneg_right (show 1 ≤ -(disc a0 b0 c0) by omega) h2
  have h4 := fe_mul ha0 hb
  have e2 : 4 * a0 * v = 4 * (a0 * v) := Int.mul_assoc _ _ _
  omega
theorem place_bd' {a0 b0 c0 p r v : Int} (hc0 : FE c0) (hp0 : 0 < a0) (hd : disc a0 b0 c0 < 0) (hv : vq a0 b0 c0 p r = v) (hb : FE v) : -2000000 ≤ p ∧ p ≤ 2000000 := by
  have hc := c_pos hp0 hd
  refine place_bd (a0 := c0) (b0 := b0) (c0 := a0) (p := r) (r := p) (v := v) hc0 hc ?_ ?_ hb
  · unfold disc at *; have : 4 * c0 * a0 = 4 * a0 * c0 := by grind
    omega
  · rw [← hv]; unfold vq; grind
theorem kk_bd {x : RS3} (h0 : 0 < x.a) (ha : FE x.a) (hb : FE x.b) : FE x.kk ∧ -x.a < 2 * x.a * x.kk + x.b ∧ 2 * x.a * x.kk + x.b ≤ x.a := by
  unfold FE at ha hb
  have e := Int.mul_ediv_add_emod (x.a - x.b) (2 * x.a)
  have h1 := Int.emod_nonneg (x.a - x.b) (show 2 * x.a ≠ 0 by omega)
  have h2 := Int.emod_lt_of_pos (x.a - x.b) (show 0 < 2 * x.a by omega)
  refine ⟨⟨?_, ?_⟩, ?_, ?_⟩
  · exact Int.le_ediv_of_mul_le (by omega) (by omega)
  · exact Int.ediv_le_of_le_mul (by omega) (by omega)
  · unfold kk; omega
  · unfold kk; omega
theorem stepT_inv {a0 b0 c0 : Int} {x : RS3} (h : Inv a0 b0 c0 x) (ho : x.out) : Inv a0 b0 c0 x.stepT := by
  obtain ⟨fa, fb, fc, pos, dn, ea, eb, ec⟩ := h
  obtain ⟨hk, hl, hu⟩ := kk_bd pos fa fb
  have d2 : disc x.stepT.a x.stepT.b x.stepT.c = disc x.a x.b x.c := by unfold disc stepT; grind
  have hc := c_pos (b := x.stepT.b) (c := x.stepT.c) pos (show disc x.stepT.a _ _ < 0 by rw [d2]; exact dn)
  have hle : x.stepT.c ≤ x.c := by
    have e : 4 * x.a * x.stepT.c = x.stepT.b * x.stepT.b - disc x.a x.b x.c := by rw [← d2]; unfold disc; show _ = _ - (_ - 4 * x.a * x.stepT.c); omega
    have e2 : 4 * x.a * x.c = x.b * x.b - disc x.a x.b x.c := by unfold disc; omega
    have hsq : x.stepT.b * x.stepT.b ≤ x.b * x.b := by
      have h1 : x.stepT.b = 2 * x.a * x.kk + x.b := rfl
      have h2 : (x.stepT.b).natAbs ≤ x.b.natAbs := by
        rw [h1]
        unfold out at ho
        omega
      have h3 := Nat.mul_le_mul h2 h2
      have h4 : ((x.stepT.b.natAbs * x.stepT.b.natAbs : Nat) : Int) = x.stepT.b * x.stepT.b := Int.natAbs_mul_self
      have h5 : ((x.b.natAbs * x.b.natAbs : Nat) : Int) = x.b * x.b := Int.natAbs_mul_self
      omega
    exact Int.le_of_mul_le_mul_left (a := 4 * x.a) (by omega) (by omega)
  refine ⟨fa, ?_, ?_, pos, by rw [d2]; exact dn, ea, ?_, ?_⟩
  · unfold FE at *; show _ ≤ 2 * x.a * x.kk + x.b ∧ 2 * x.a * x.kk + x.b ≤ _; omega
  · unfold FE at *; omega
  · show 2 * x.a * x.kk + x.b = mq a0 b0 c0 x.p (x.p * x.kk + x.q) x.r (x.r * x.kk + x.s)
    generalize x.kk = k
    rw [ea, eb]; unfold vq mq; grind
  · show x.a * x.kk * x.kk + x.b * x.kk + x.c = vq a0 b0 c0 (x.p * x.kk + x.q) (x.r * x.kk + x.s)
    generalize x.kk = k
    rw [ea, eb, ec]; unfold vq mq; grind
theorem stepS_inv {a0 b0 c0 : Int} {x : RS3} (h : Inv a0 b0 c0 x) : Inv a0 b0 c0 x.stepS := by
  obtain ⟨fa, fb, fc, pos, dn, ea, eb, ec⟩ := h
  refine ⟨fc, by unfold FE at *; show _ ≤ -x.b ∧ -x.b ≤ _; omega, fa, c_pos pos dn, ?_, ec, ?_, ?_⟩
  · have : disc x.stepS.a x.stepS.b x.stepS.c = disc x.a x.b x.c := by unfold disc stepS; grind
    rw [this]; exact dn
  · show -x.b = mq a0 b0 c0 x.q (-x.p) x.s (-x.r)
    rw [eb]; unfold mq; grind
  · show x.a = vq a0 b0 c0 (-x.p) (-x.r)
    rw [ea]; unfold vq; grind
theorem stepT_mu {x : RS3} (h0 : 0 < x.a) (ha : FE x.a) (hb : FE x.b) (ho : x.out) : x.stepT.mu < x.mu := by
  obtain ⟨_, hl, hu⟩ := kk_bd h0 ha hb
  have h1 : ¬ x.stepT.out := by
    unfold out
    show ¬ (2 * x.a * x.kk + x.b ≤ -x.a ∨ x.a < 2 * x.a * x.kk + x.b)
    omega
  unfold mu
  rw [if_neg h1, if_pos ho, show x.stepT.a = x.a from rfl]
  split <;> split <;> omega
theorem stepS_mu {x : RS3} (h0 : 0 < x.a) (hc : 0 < x.c) (hr : x.red = false) (ho : ¬ x.out) : x.stepS.mu < x.mu := by
  have hr' := of_decide_eq_false hr
  unfold out at ho
  by_cases h : x.c < x.a
  · have h1 : x.stepS.a = x.c := rfl
    unfold mu
    rw [h1]
    split <;> split <;> split <;> split <;> omega
  · have hx : x.a = x.c ∧ x.b < 0 := by omega
    have h1 : ¬ x.stepS.out := by
      unfold out
      show ¬ (-x.b ≤ -x.c ∨ x.c < -x.b)
      omega
    have h2 : ¬ x.stepS.b < 0 := by show ¬ -x.b < 0; omega
    unfold mu
    rw [if_neg h1, if_neg h2, if_pos hx.2, show x.stepS.a = x.c from rfl]
    split <;> omega
/-- y is what the reduction of x comes to -/
inductive To : RS3 → RS3 → Prop
  | done {x : RS3} : x.red = true → To x x
  | t {x y : RS3} : x.red = false → x.out → To x.stepT y → To x y
  | s {x y : RS3} : x.red = false → ¬ x.out → To x.stepS y → To x y
theorem to_ex {a0 b0 c0 : Int} : ∀ (n : Nat) (x : RS3), x.mu ≤ n → Inv a0 b0 c0 x → ∃ y, To x y ∧ Inv a0 b0 c0 y := by
  intro n
  induction n with
  | zero => intro x hn hi; unfold mu at hn; have := hi.pos; omega
  | succ n ih =>
    intro x hn hi
    rcases hr : x.red with _ | _
    · by_cases ho : x.out
      · obtain ⟨y, hy, hiy⟩ := ih x.stepT (by have := stepT_mu hi.pos hi.fa hi.fb ho; omega) (stepT_inv hi ho)
        exact ⟨y, .t hr ho hy, hiy⟩
      · obtain ⟨y, hy, hiy⟩ := ih x.stepS (by have := stepS_mu hi.pos (c_pos hi.pos hi.dn) hr ho; omega) (stepS_inv hi)
        exact ⟨y, .s hr ho hy, hiy⟩
    · exact ⟨x, .done hr, hi⟩
theorem To.fin {x y : RS3} (h : To x y) (hr : x.red = true) : y = x := by
  cases h with
  | done _ => rfl
  | t h _ _ => rw [hr] at h; cases h
  | s h _ _ => rw [hr] at h; cases h
theorem To.next_t {x y : RS3} (h : To x y) (hr : x.red = false) (ho : x.out) : To x.stepT y := by
  cases h with
  | done h => rw [hr] at h; cases h
  | t _ _ h => exact h
  | s _ h _ => exact absurd ho h
theorem To.next_s {x y : RS3} (h : To x y) (hr : x.red = false) (ho : ¬ x.out) : To x.stepS y := by
  cases h with
  | done h => rw [hr] at h; cases h
  | t _ h _ => exact absurd h ho
  | s _ _ h => exact h
/-- the numbers of the matrix are small -/
theorem Inv.ent {a0 b0 c0 : Int} {x : RS3} (h : Inv a0 b0 c0 x) (ha0 : FE a0) (hc0 : FE c0) (hp0 : 0 < a0) (hd : disc a0 b0 c0 < 0) :
    (-2000000 ≤ x.p ∧ x.p ≤ 2000000) ∧ (-2000000 ≤ x.q ∧ x.q ≤ 2000000) ∧ (-2000000 ≤ x.r ∧ x.r ≤ 2000000) ∧ (-2000000 ≤ x.s ∧ x.s ≤ 2000000) :=
  ⟨place_bd' hc0 hp0 hd h.ea.symm h.fa, place_bd' hc0 hp0 hd h.ec.symm h.fc, place_bd ha0 hp0 hd h.ea.symm h.fa, place_bd ha0 hp0 hd h.ec.symm h.fc⟩
def start (a b c : Int) : RS3 := ⟨a, b, c, 1, 0, 0, 1⟩
theorem start_inv {a b c : Int} (ha : FE a) (hb : FE b) (hc : FE c) (hp : 0 < a) (hd : disc a b c < 0) : Inv a b c (start a b c) :=
  ⟨ha, hb, hc, hp, hd, by unfold vq start; simp, by unfold mq start; simp, by unfold vq start; simp⟩
end RS3
end Go.Proofs.YtfpgdbdgglbleaaDoor
