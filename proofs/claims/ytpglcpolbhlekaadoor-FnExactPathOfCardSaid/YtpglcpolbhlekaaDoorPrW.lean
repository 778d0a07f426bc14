/- spec.l03Walk: contract. -/
import Derived.Test.YtpglcpolbhlekaaDoorPrM
import Derived.Test.YtpglcpolbhlekaaDoorGrB
import Derived.Test.YtpglcpolbhlekaaDoorFop
import Derived.Test.YtpglcpolbhlekaaDoorSCmp
namespace Go.Proofs.YtpglcpolbhlekaaDoor
open Go.ChangeShapes Go.WideShapes Go.ChangeAt Go.RowKit

/-- the matrix of a way, letter by letter -/
def wayM (m : Mat) (c : Int) : Mat := if c = 76 then ⟨m.a + m.b, m.b, m.c + m.d, m.d⟩ else ⟨m.a, m.a + m.b, m.c, m.c + m.d⟩
def wayL (done : List Int) : Mat := done.foldl wayM Mat.one
theorem wayL_snoc (done : List Int) (c : Int) : wayL (done ++ [c]) = wayM (wayL done) c := by simp [wayL]
/-- The letters from x, y down to where both are one. -/
inductive Pth : Int → Int → List Int → Prop
  | stop (x : Int) : Pth x x []
  | left {x y : Int} {l : List Int} (h : x < y) (hl : Pth x (y - x) l) : Pth x y (76 :: l)
  | right {x y : Int} {l : List Int} (h : y < x) (hl : Pth (x - y) y l) : Pth x y (82 :: l)
/-- What holds at each step of the way to p/q: x and y tell how the place's columns make it. -/
structure Way (p q : Int) (m : Mat) (x y : Int) : Prop where
  n : Nn m
  x1 : 1 ≤ x
  y1 : 1 ≤ y
  pp : m.a * x + m.b * y = p
  qq : m.c * x + m.d * y = q
theorem Way.start {p q : Int} (hp : 1 ≤ p) (hq : 1 ≤ q) : Way p q Mat.one p q :=
  ⟨⟨by simp [Mat.one], by simp [Mat.one], by simp [Mat.one], by simp [Mat.one], by simp [Mat.one]⟩, hp, hq, by simp [Mat.one], by simp [Mat.one]⟩
theorem Way.left {p q : Int} {m : Mat} {x y : Int} (h : Way p q m x y) (hlt : x < y) : Way p q (wayM m 76) x (y - x) := by
  obtain ⟨⟨a0, b0, c0, d0, e0⟩, hx, hy, hp, hq⟩ := h
  exact ⟨⟨by simp [wayM]; omega, by simp [wayM]; omega, by simp [wayM]; omega, by simp [wayM]; omega, by simp [wayM]; grind⟩, hx, by omega, by simp [wayM]; grind, by simp [wayM]; grind⟩
theorem Way.right {p q : Int} {m : Mat} {x y : Int} (h : Way p q m x y) (hlt : y < x) : Way p q (wayM m 82) (x - y) y := by
  obtain ⟨⟨a0, b0, c0, d0, e0⟩, hx, hy, hp, hq⟩ := h
  exact ⟨⟨by simp [wayM]; omega, by simp [wayM]; omega, by simp [wayM]; omega, by simp [wayM]; omega, by simp [wayM]; grind⟩, by omega, hy, by simp [wayM]; grind, by simp [wayM]; grind⟩
theorem Way.bounds {p q : Int} {m : Mat} {x y : Int} (h : Way p q m x y) : m.a + m.b ≤ p ∧ m.c + m.d ≤ q ∧ 0 < m.a + m.b ∧ 0 < m.c + m.d := by
  obtain ⟨⟨a0, b0, c0, d0, e0⟩, hx, hy, hp, hq⟩ := h
  have e1 := Int.mul_le_mul_of_nonneg_left hx a0
  have e2 := Int.mul_le_mul_of_nonneg_left hy b0
  have e3 := Int.mul_le_mul_of_nonneg_left hx c0
  have e4 := Int.mul_le_mul_of_nonneg_left hy d0
  refine ⟨by omega, by omega, ?_, ?_⟩
  · rcases Int.lt_or_le 0 (m.a + m.b) with h | h
    · exact h
    · have z1 : m.a = 0 := by omega
      have z2 : m.b = 0 := by omega
      rw [z1, z2] at e0; simp at e0
  · rcases Int.lt_or_le 0 (m.c + m.d) with h | h
    · exact h
    · have z1 : m.c = 0 := by omega
      have z2 : m.d = 0 := by omega
      rw [z1, z2] at e0; simp at e0
theorem Way.unit {p q : Int} {m : Mat} {x y : Int} (h : Way p q m x y) (hg : Int.gcd p q = 1) (he : x = y) : x = 1 := by
  obtain ⟨_, hx, hy, hp, hq⟩ := h
  subst he
  have h1 : x ∣ p := ⟨m.a + m.b, by rw [← hp]; grind⟩
  have h2 : x ∣ q := ⟨m.c + m.d, by rw [← hq]; grind⟩
  have h3 := Int.dvd_coe_gcd h1 h2
  rw [hg] at h3
  have h4 : x ∣ 1 := by simpa using h3
  exact Int.eq_one_of_dvd_one (by omega) h4
theorem Way.eqB {p q : Int} {m : Mat} {x y : Int} (h : Way p q m x y) (hg : Int.gcd p q = 1) : decide (m.a + m.b = p ∧ m.c + m.d = q) = decide (x = y) := by
  rcases Decidable.em (x = y) with he | he
  · have h1 := h.unit hg he
    have h2 : y = 1 := by omega
    have hp := h.pp
    have hq := h.qq
    rw [h1, h2] at hp hq
    rw [decide_eq_true he, decide_eq_true]
    constructor <;> omega
  · rw [decide_eq_false he, decide_eq_false]
    rintro ⟨h1, h2⟩
    obtain ⟨⟨a0, b0, c0, d0, e0⟩, hx, hy, hp, hq⟩ := h
    have k1 : m.d * p - m.b * q = x := by
      have : m.d * (m.a * x + m.b * y) - m.b * (m.c * x + m.d * y) = (m.a * m.d - m.b * m.c) * x := by grind
      rw [← hp, ← hq, this, e0]; omega
    have k2 : m.a * q - m.c * p = y := by
      have : m.a * (m.c * x + m.d * y) - m.c * (m.a * x + m.b * y) = (m.a * m.d - m.b * m.c) * y := by grind
      rw [← hp, ← hq, this, e0]; omega
    rw [← h1, ← h2] at k1 k2
    have k3 : m.d * (m.a + m.b) - m.b * (m.c + m.d) = m.a * m.d - m.b * m.c := by grind
    have k4 : m.a * (m.c + m.d) - m.c * (m.a + m.b) = m.a * m.d - m.b * m.c := by grind
    omega
theorem Way.lessB {p q : Int} {m : Mat} {x y : Int} (h : Way p q m x y) (h1 : 1 ≤ q) : less p q (m.a + m.b) (m.c + m.d) = decide (x < y) := by
  obtain ⟨_, _, _, hd⟩ := h.bounds
  obtain ⟨⟨a0, b0, c0, d0, e0⟩, hx, hy, hp, hq⟩ := h
  unfold less
  rw [if_neg (by omega)]
  have : p * (m.c + m.d) - (m.a + m.b) * q = x - y := by
    have : p * (m.c + m.d) - (m.a + m.b) * q = (m.a * m.d - m.b * m.c) * (x - y) := by rw [← hp, ← hq]; grind
    rw [this, e0]; omega
  by_cases hl : x < y
  · rw [decide_eq_true hl, decide_eq_true]; omega
  · rw [decide_eq_false hl, decide_eq_false]; omega
theorem nn_low {m : Mat} (h : Nn m) (ha : m.a + m.b ≤ 1000000000) (hc : m.c + m.d ≤ 1000000000) (hq : 0 < m.c + m.d) :
    lowP (m.a + m.b) (m.c + m.d) = m.a + m.b ∧ lowQ (m.a + m.b) (m.c + m.d) = m.c + m.d ∧ Mid (m.a + m.b) ∧ Mid (m.c + m.d) ∧ ¬ (m.a + m.b = 0 ∧ m.c + m.d = 0) := by
  obtain ⟨a0, b0, c0, d0, det⟩ := h
  have m1 : Mid (m.a + m.b) := by unfold Mid; omega
  have m2 : Mid (m.c + m.d) := by unfold Mid; omega
  have hne : ¬ (m.a + m.b = 0 ∧ m.c + m.d = 0) := by omega
  have hg : Int.gcd (m.a + m.b) (m.c + m.d) = 1 := by
    obtain ⟨x, hx⟩ := Int.gcd_dvd_left (m.a + m.b) (m.c + m.d)
    obtain ⟨y, hy⟩ := Int.gcd_dvd_right (m.a + m.b) (m.c + m.d)
    have hd : ((Int.gcd (m.a + m.b) (m.c + m.d) : Nat) : Int) ∣ 1 := by
      refine ⟨m.d * x - m.b * y, ?_⟩
      generalize ((Int.gcd (m.a + m.b) (m.c + m.d) : Nat) : Int) = g at hx hy
      have : g * (m.d * x - m.b * y) = m.d * (g * x) - m.b * (g * y) := by grind
      rw [this, ← hx, ← hy]
      grind
    have := Int.eq_one_of_dvd_one (by omega) hd
    omega
  obtain ⟨l1, l2⟩ := (low_iff hne m1 m2).2 ⟨hg, by omega, .inl hq⟩
  exact ⟨l1, l2, m1, m2, hne⟩

theorem GrB.made (w : World) (L : Nat) (hL : L ≤ w.heap.size) : GrB (w.alloc (.cells #[] 5)) L (.slice (some ⟨w.heap.size, 0, none⟩) 0 0) [] :=
  World.ownsRow_made w #[] 0 hL (by unfold maxLen; omega) (by simp)
theorem GrB.madeAt {w : World} {L g : Nat} (hg : w.heap.size = g) (hL : L ≤ g) : GrB (w.alloc (.cells #[] 5)) L (.slice (some ⟨g, 0, none⟩) 0 0) [] := hg ▸ GrB.made w L (hg ▸ hL)
def capOf : Value → Nat
  | .slice _ _ c => c
  | _ => 0
theorem GrB.far {w : World} {L : Nat} {v : Value} {xs : List Int} (h : GrB w L v xs) {p : Addr} (hp : ∀ g, v.ownBlock = some g → g ≠ p.block) (u : Value) : GrB (w.setCell p u) L v xs := by
  refine World.ownsRow.kept (row := some p.block) h ⟨rfl, rfl, rfl, by simp [World.setCell], fun k _ hk => Below.heap_setCell w p u k (fun e => hk (by rw [e]))⟩ ?_
  rcases e : v.ownBlock with _ | k
  · exact .inl rfl
  · exact .inr (fun e' => hp k e (by injection e'))
theorem GrB.apart {w : World} {L b : Nat} {v : Value} {xs : List Int} {x : Int} {r : List Value} (h : GrB w L v xs) (h0 : xs = [] → capOf v = 0) (hB : Box w b ((.int .i64 x) :: r)) : ∀ g, v.ownBlock = some g → g ≠ b := by
  intro g hg e
  subst e
  obtain ⟨hl, ⟨rfl, h1⟩ | ⟨g', cap, cur, rfl, hg', hh, hn, _, hsz, ht⟩⟩ := h
  · simp [Value.ownBlock] at hg
  · have e : g' = g := by simpa [Value.ownBlock] using hg
    subst e
    have hc := (hB.2 0 _ rfl).1
    simp only [World.cell?, hh] at hc
    have hc' : cur[0]? = some (.int .i64 x) := by simpa using hc
    cases xs with
    | nil =>
      have : cap = 0 := h0 rfl
      subst this
      have hz : cur.size = 0 := by omega
      rw [Array.getElem?_eq_none (by omega)] at hc'
      cases hc'
    | cons y ys =>
      have h1 : (cur.toList.take ((y :: ys).length * 1))[0]? = ((y :: ys).map fun x => Value.int .u8 x)[0]? := by rw [ht]
      rw [List.getElem?_take_of_lt (by simp), Array.getElem?_toList, hc'] at h1
      simp at h1
theorem Box.far2 {w : World} {g b : Nat} {xs : List Value} (h : Box w g xs) (hne : g ≠ b) (u v : Value) : Box ((w.setCell ⟨b, 0, none⟩ u).setCell ⟨b, 1, none⟩ v) g xs := (h.far hne u).far hne v
theorem GrB.far2 {w : World} {L b : Nat} {v : Value} {xs : List Int} (h : GrB w L v xs) (hp : ∀ g, v.ownBlock = some g → g ≠ b) (u u2 : Value) : GrB ((w.setCell ⟨b, 0, none⟩ u).setCell ⟨b, 1, none⟩ u2) L v xs := (h.far hp u).far hp u2
theorem cap_some {done : List Int} {y : Int} {v : Value} : done ++ [y] = [] → capOf v = 0 := fun h => by simp at h
/-- What the walk keeps between two steps. -/
def WB (w wr : World) (p q : Int) (v : Value) (done : List Int) (m : Mat) : Prop :=
  Below w.heap.size w wr ∧ (GrB wr (w.heap.size + 1) v done ∧ (done = [] → capOf v = 0)) ∧ Box wr w.heap.size [.int .i64 p, .int .i64 q] ∧ Box wr (w.heap.size + 1) [.int .i64 0, .int .i64 0] ∧ Box wr (w.heap.size + 1 + 1) [.int .i64 0, .int .i64 0] ∧
    Box wr (w.heap.size + 1 + 1 + 1 + 1) [.int .i64 m.b, .int .i64 m.d] ∧ Box wr (w.heap.size + 1 + 1 + 1 + 1 + 1) [.int .i64 m.a, .int .i64 m.c]
theorem WB.below {w wr w2 : World} {p q : Int} {v : Value} {done : List Int} {m : Mat} (h : WB w wr p q v done m) (hb : Below wr.heap.size wr w2) : WB w w2 p q v done m := by
  obtain ⟨T, G, B0, B1, B2, B4, B5⟩ := h
  exact ⟨own_trans T hb, ⟨G.1.own hb, G.2⟩, B0.below hb, B1.below hb, B2.below hb, B4.below hb, B5.below hb⟩
set_option maxRecDepth 100000 in
set_option maxHeartbeats 8000000 in
theorem specWalk_any (p q : Int) (hp : 1 ≤ p) (hp' : p ≤ 10000) (hq : 1 ≤ q) (hq' : q ≤ 10000) (hg : Int.gcd p q = 1) (w : World) :
    Calls Tryd.prog 41 #[(.agg #[.int .i64 p, .int .i64 q])] w fun e w' => ∃ (m : Mat) (v : Value) (done : List Int), e = .returned (.tuple #[(.agg #[.int .i64 m.b, .int .i64 m.d]), (.agg #[.int .i64 m.a, .int .i64 m.c]), v]) ∧ Hid (Nn m ∧ m.a + m.b = p ∧ m.c + m.d = q ∧ wayL done = m ∧ (done.length : Int) + 2 ≤ p + q ∧ Pth p q done) ∧
      GrB w' (w.heap.size + 1) v done ∧ Below w.heap.size w w' := by
  have HG := Lib.hid hg
  have n45 : w.heap.size + 1 + 1 + 1 + 1 ≠ w.heap.size + 1 + 1 + 1 + 1 + 1 := by omega
  have n54 : w.heap.size + 1 + 1 + 1 + 1 + 1 ≠ w.heap.size + 1 + 1 + 1 + 1 := by omega
  have n04 : w.heap.size ≠ w.heap.size + 1 + 1 + 1 + 1 := by omega
  have n05 : w.heap.size ≠ w.heap.size + 1 + 1 + 1 + 1 + 1 := by omega
  have n14 : w.heap.size + 1 ≠ w.heap.size + 1 + 1 + 1 + 1 := by omega
  have n15 : w.heap.size + 1 ≠ w.heap.size + 1 + 1 + 1 + 1 + 1 := by omega
  have n24 : w.heap.size + 1 + 1 ≠ w.heap.size + 1 + 1 + 1 + 1 := by omega
  have n25 : w.heap.size + 1 + 1 ≠ w.heap.size + 1 + 1 + 1 + 1 + 1 := by omega
  have n12 : w.heap.size + 1 ≠ w.heap.size + 1 + 1 := by omega
  have n21 : w.heap.size + 1 + 1 ≠ w.heap.size + 1 := by omega
  clear hg
  go_enter Tryd.func41, Tryd.ntmps41
  go_wp2
  go_loopw [7] (fun v wr => ∃ (done : List Int) (m : Mat) (x y : Int), Hid (Way p q m x y) ∧ Hid (wayL done = m ∧ ∀ r, Pth x y r → Pth p q (done ++ r)) ∧ (done.length : Int) + x + y ≤ p + q ∧ WB w wr p q v done m) (fun v _ => (p + q).toNat - lenOf v)
  case atStart =>
    refine ⟨[], Mat.one, p, q, Lib.hid (Way.start hp hq), Lib.hid ⟨rfl, fun _ h => h⟩, by simp, by repeat (first | with_reducible exact own_refl _ | with_reducible assumption | with_reducible apply own_alloc | with_reducible apply own_drewN | with_reducible apply own_drew | ((with_reducible refine own_setCell ?_ ?_ _); rotate_left; focus (first | (simp; done) | (simp; omega))) | (with_reducible (refine own_trans ?_ (by assumption)))), ?_, ?_, ?_, ?_, ?_, ?_⟩
    · exact ⟨GrB.alloc (GrB.alloc (GrB.madeAt (by simp) (by omega)) _) _, fun _ => rfl⟩
    case refine_5 => show Box _ (w.heap.size + 1 + 1 + 1 + 1) [.int .i64 0, .int .i64 1]; repeat (first | with_reducible assumption | with_reducible exact Box.new _ _ _ | (with_reducible refine Box.newAt ?_ _ _; (simp; done)) | with_reducible apply Box.alloc | with_reducible apply Box.drewN | with_reducible apply Box.drew)
    case refine_6 => show Box _ (w.heap.size + 1 + 1 + 1 + 1 + 1) [.int .i64 1, .int .i64 0]; repeat (first | with_reducible assumption | with_reducible exact Box.new _ _ _ | (with_reducible refine Box.newAt ?_ _ _; (simp; done)) | with_reducible apply Box.alloc | with_reducible apply Box.drewN | with_reducible apply Box.drew)
    all_goals repeat (first | with_reducible assumption | with_reducible exact Box.new _ _ _ | (with_reducible refine Box.newAt ?_ _ _; (simp; done)) | with_reducible apply Box.alloc | with_reducible apply Box.drewN | with_reducible apply Box.drew)
  case round =>
    obtain ⟨done, m, x, y, HW, HL, hlen, HB⟩ := hrel
    have HN := Lib.hid hlen
    have HBD := Lib.hid HW.out.bounds
    have HXY := Lib.hid (show 1 ≤ x ∧ 1 ≤ y from ⟨HW.out.x1, HW.out.y1⟩)
    have HLO := Lib.hid (nn_low HW.out.n (by have := HBD.out; omega) (by have := HBD.out; omega) HBD.out.2.2.2)
    have HQE := HW.out.eqB HG.out
    have HLE := HW.out.lessB hq
    obtain ⟨X, hX⟩ : ∃ X, m.a + m.b = X := ⟨_, rfl⟩
    obtain ⟨Y, hY⟩ : ∃ Y, m.c + m.d = Y := ⟨_, rfl⟩
    have HX := Lib.hid hX
    have HY := Lib.hid hY
    have hB2 := HB
    obtain ⟨T, G, B0, B1, B2, B4, B5⟩ := hB2
    obtain ⟨ad, cap, hv⟩ := G.1.shape
    subst hv
    obtain ⟨_, _, _, _, _⟩ := B4.two
    obtain ⟨_, _, _, _, _⟩ := B5.two
    rw [hX, hY] at HQE
    rw [hX, hY] at HLE
    have hXB : X ≤ p ∧ Y ≤ q ∧ 0 < X ∧ 0 < Y := by rw [← hX, ← hY]; exact HBD.out
    obtain ⟨_, _, _, _⟩ := hXB
    have heq : ∀ w, (Op.equalIn 10000 30 (.agg #[.int .i64 X, .int .i64 Y]) (.agg #[.int .i64 p, .int .i64 q])).run Tryd.prog w = .ok (decide (x = y)) w := fun w => eq_fr_is _ X Y p q HQE w
    clear hX hY HQE T G B0 B1 B2 B4 B5 hlen
    go_wp2_with fail
    refine (medL_to m.b m.d m.a m.c X Y (by rw [← HX.out]; omega) (by rw [← HY.out]; omega) (by rw [← HX.out, ← HY.out]; exact HLO.out.1) (by rw [← HX.out, ← HY.out]; exact HLO.out.2.1) (by rw [← HX.out]; exact HLO.out.2.2.1) (by rw [← HY.out]; exact HLO.out.2.2.2.1) (by rw [← HX.out, ← HY.out]; exact HLO.out.2.2.2.2) _).mono ?_
    rintro e w1 ⟨rfl, hb1⟩
    have HB1 := HB.below hb1
    clear HB hb1
    have HB2 := HB1.below (own_alloc (own_refl w1) (.cells #[.int .i64 X, .int .i64 Y] 30))
    have B8 : Box (w1.alloc (.cells #[.int .i64 X, .int .i64 Y] 30)) w1.heap.size [.int .i64 X, .int .i64 Y] := Box.new _ _ _
    have hw8 : w.heap.size + 1 + 1 + 1 + 1 + 1 < w1.heap.size := HB1.2.2.2.2.2.2.1
    have hB2 := HB2
    obtain ⟨T2, G2, C0, C1, C2, C4, C5⟩ := hB2
    obtain ⟨_, _, _, _, _⟩ := C0.two
    obtain ⟨_, _, _, _, _⟩ := B8.two
    obtain ⟨_, _, _, _, _⟩ := C4.two
    obtain ⟨_, _, _, _, _⟩ := C5.two
    have hsz : done.length ≤ 100000 := by have := HN.out; have := HXY.out; omega
    rcases Int.lt_trichotomy x y with hxy | hxy | hxy
    · have heq' : ∀ w, (Op.equalIn 10000 30 (.agg #[.int .i64 X, .int .i64 Y]) (.agg #[.int .i64 p, .int .i64 q])).run Tryd.prog w = .ok false w := fun w => by rw [heq w, decide_eq_false (by omega)]
      rw [decide_eq_true hxy] at HLE
      have HXL := Lib.hid hxy
      clear heq hxy T2 G2 C0 C1 C2 C4 C5
      go_wp2_with fail
      refine (less_is true p q X Y (by unfold Ent; omega) (by unfold Ent; omega) (by unfold Ent; omega) (by unfold Ent; omega) (by omega) (by omega) HLE _).mono ?_
      rintro e w3 ⟨rfl, hb3⟩
      have HB3 := HB2.below hb3
      have B83 := B8.below hb3
      clear HB2 B8 hb3 heq' HLE
      obtain ⟨T3, G3, C0, C1, C2, C4, C5⟩ := HB3
      obtain ⟨_, _, _, _, _⟩ := B83.two
      obtain ⟨_, _, _, _, _⟩ := C5.two
      go_wp2_with (at_builtin; refine app8 rfl _ _ rfl (w.heap.size + 1) ((w3.setCell ⟨w.heap.size + 1 + 1 + 1 + 1 + 1, 0, none⟩ (.int .i64 X)).setCell ⟨w.heap.size + 1 + 1 + 1 + 1 + 1, 1, none⟩ (.int .i64 Y)) (.slice ad done.length cap) done 76 rfl (G3.1.far2 (G3.1.apart G3.2 C5) _ _) w3.heap.size rfl (by simp) (by omega) (by simp; omega) ?_; intro v' w6 hG6 hb6 hk6)
      have T6 : Below w.heap.size w w6 := (show Below w.heap.size w ((w3.setCell ⟨w.heap.size + 1 + 1 + 1 + 1 + 1, 0, none⟩ (.int .i64 X)).setCell ⟨w.heap.size + 1 + 1 + 1 + 1 + 1, 1, none⟩ (.int .i64 Y)) by repeat (first | with_reducible exact own_refl _ | with_reducible assumption | with_reducible apply own_alloc | with_reducible apply own_drewN | with_reducible apply own_drew | ((with_reducible refine own_setCell ?_ ?_ _); rotate_left; focus (first | (simp; done) | (simp; omega))) | (with_reducible (refine own_trans ?_ (by assumption))))).trans (hb6.mono (Nat.le_succ _))
      have K0 := hk6 _ _ (G3.1.apart G3.2 C0) (C0.far2 (b := w.heap.size + 1 + 1 + 1 + 1 + 1) (by omega) (.int .i64 X) (.int .i64 Y))
      have K1 := hk6 _ _ (G3.1.apart G3.2 C1) (C1.far2 (b := w.heap.size + 1 + 1 + 1 + 1 + 1) (by omega) (.int .i64 X) (.int .i64 Y))
      have K2 := hk6 _ _ (G3.1.apart G3.2 C2) (C2.far2 (b := w.heap.size + 1 + 1 + 1 + 1 + 1) (by omega) (.int .i64 X) (.int .i64 Y))
      have K4 := hk6 _ _ (G3.1.apart G3.2 C4) (C4.far2 (b := w.heap.size + 1 + 1 + 1 + 1 + 1) (by omega) (.int .i64 X) (.int .i64 Y))
      have K5 := hk6 _ _ (G3.1.apart G3.2 C5) (C5.put2 (.int .i64 X) (.int .i64 Y))
      go_roundw
      case rel =>
        refine ⟨done ++ [76], wayM m 76, x, y - x, Lib.hid (HW.out.left HXL.out), Lib.hid ⟨by rw [wayL_snoc, HL.out.1], fun r hr => by rw [List.append_assoc]; exact HL.out.2 _ (.left HXL.out hr)⟩, by have := HN.out; have := HXL.out; have := HXY.out; simp; omega, T6, ⟨hG6, cap_some⟩, K0, K1, K2, ?_, ?_⟩
        · simpa [wayM, HX.out, HY.out] using K4
        · simpa [wayM, HX.out, HY.out] using K5
      case measure => rw [hG6.len]; have := HN.out; have := HXY.out; simp [lenOf]; omega
    · have heq' : ∀ w, (Op.equalIn 10000 30 (.agg #[.int .i64 X, .int .i64 Y]) (.agg #[.int .i64 p, .int .i64 q])).run Tryd.prog w = .ok true w := fun w => by rw [heq w, decide_eq_true hxy]
      have HXL := Lib.hid hxy
      clear heq hxy HLE
      obtain ⟨_, _, _, _, _⟩ := C1.two
      obtain ⟨_, _, _, _, _⟩ := C2.two
      have HF := Lib.hid (show Nn m ∧ m.a + m.b = p ∧ m.c + m.d = q ∧ wayL done = m ∧ (done.length : Int) + 2 ≤ p + q ∧ Pth p q done by
        have h1 := HW.out.unit HG.out HXL.out
        have h2 : y = 1 := by have := HXL.out; omega
        have e1 := HW.out.pp
        have e2 := HW.out.qq
        rw [h1, h2] at e1 e2
        exact ⟨HW.out.n, by omega, by omega, HL.out.1, by have := HN.out; omega, by have := HL.out.2 [] (by rw [HXL.out]; exact .stop y); rwa [List.append_nil] at this⟩)
      have RA1 := (C1.put2 (.int .i64 m.b) (.int .i64 m.d)).far2 (b := w.heap.size + 1 + 1) (by omega) (.int .i64 m.a) (.int .i64 m.c)
      have RA2 := (C2.far2 (b := w.heap.size + 1) (by omega) (.int .i64 m.b) (.int .i64 m.d)).put2 (.int .i64 m.a) (.int .i64 m.c)
      have RB1 := (C1.far2 (b := w.heap.size + 1 + 1) (by omega) (.int .i64 m.a) (.int .i64 m.c)).put2 (.int .i64 m.b) (.int .i64 m.d)
      have RB2 := (C2.put2 (.int .i64 m.a) (.int .i64 m.c)).far2 (b := w.heap.size + 1) (by omega) (.int .i64 m.b) (.int .i64 m.d)
      have GA := (G2.1.far2 (G2.1.apart G2.2 C1) (.int .i64 m.b) (.int .i64 m.d)).far2 (G2.1.apart G2.2 C2) (.int .i64 m.a) (.int .i64 m.c)
      have GB := (G2.1.far2 (G2.1.apart G2.2 C2) (.int .i64 m.a) (.int .i64 m.c)).far2 (G2.1.apart G2.2 C1) (.int .i64 m.b) (.int .i64 m.d)
      obtain ⟨_, ra0, ra1, _, _⟩ := RA1.two
      obtain ⟨_, ra2, ra3, _, _⟩ := RA2.two
      obtain ⟨_, rb0, rb1, _, _⟩ := RB1.two
      obtain ⟨_, rb2, rb3, _, _⟩ := RB2.two
      have RALL := Lib.hid (And.intro (And.intro ra0 ra1) (And.intro ra2 ra3))
      have RBLL := Lib.hid (And.intro (And.intro rb0 rb1) (And.intro rb2 rb3))
      clear ra0 ra1 ra2 ra3 rb0 rb1 rb2 rb3 RA1 RA2 RB1 RB2
      go_upto_region 4 with fail
      go_region
      all_goals
        go_wp2
        first
          | exact bodyPost_ret (v := .tuple #[(.agg #[.int .i64 m.b, .int .i64 m.d]), (.agg #[.int .i64 m.a, .int .i64 m.c]), .slice ad done.length cap]) (by simp [results, Tryd.results41, go_sem, RALL.out.1.1, RALL.out.1.2, RALL.out.2.1, RALL.out.2.2]) rfl ⟨m, _, done, rfl, HF, GA, by repeat (first | with_reducible exact own_refl _ | with_reducible assumption | with_reducible apply own_alloc | with_reducible apply own_drewN | with_reducible apply own_drew | ((with_reducible refine own_setCell ?_ ?_ _); rotate_left; focus (first | (simp; done) | (simp; omega))) | (with_reducible (refine own_trans ?_ (by assumption))))⟩
          | exact bodyPost_ret (v := .tuple #[(.agg #[.int .i64 m.b, .int .i64 m.d]), (.agg #[.int .i64 m.a, .int .i64 m.c]), .slice ad done.length cap]) (by simp [results, Tryd.results41, go_sem, RBLL.out.1.1, RBLL.out.1.2, RBLL.out.2.1, RBLL.out.2.2]) rfl ⟨m, _, done, rfl, HF, GB, by repeat (first | with_reducible exact own_refl _ | with_reducible assumption | with_reducible apply own_alloc | with_reducible apply own_drewN | with_reducible apply own_drew | ((with_reducible refine own_setCell ?_ ?_ _); rotate_left; focus (first | (simp; done) | (simp; omega))) | (with_reducible (refine own_trans ?_ (by assumption))))⟩
    · have heq' : ∀ w, (Op.equalIn 10000 30 (.agg #[.int .i64 X, .int .i64 Y]) (.agg #[.int .i64 p, .int .i64 q])).run Tryd.prog w = .ok false w := fun w => by rw [heq w, decide_eq_false (by omega)]
      rw [decide_eq_false (show ¬ x < y by omega)] at HLE
      have HXL := Lib.hid hxy
      clear heq hxy T2 G2 C0 C1 C2 C4 C5
      go_wp2_with fail
      refine (less_is false p q X Y (by unfold Ent; omega) (by unfold Ent; omega) (by unfold Ent; omega) (by unfold Ent; omega) (by omega) (by omega) HLE _).mono ?_
      rintro e w3 ⟨rfl, hb3⟩
      have HB3 := HB2.below hb3
      have B83 := B8.below hb3
      clear HB2 B8 hb3 heq' HLE
      obtain ⟨T3, G3, C0, C1, C2, C4, C5⟩ := HB3
      obtain ⟨_, _, _, _, _⟩ := B83.two
      obtain ⟨_, _, _, _, _⟩ := C4.two
      go_wp2_with (at_builtin; refine app8 rfl _ _ rfl (w.heap.size + 1) ((w3.setCell ⟨w.heap.size + 1 + 1 + 1 + 1, 0, none⟩ (.int .i64 X)).setCell ⟨w.heap.size + 1 + 1 + 1 + 1, 1, none⟩ (.int .i64 Y)) (.slice ad done.length cap) done 82 rfl (G3.1.far2 (G3.1.apart G3.2 C4) _ _) w3.heap.size rfl (by simp) (by omega) (by simp; omega) ?_; intro v' w6 hG6 hb6 hk6)
      have T6 : Below w.heap.size w w6 := (show Below w.heap.size w ((w3.setCell ⟨w.heap.size + 1 + 1 + 1 + 1, 0, none⟩ (.int .i64 X)).setCell ⟨w.heap.size + 1 + 1 + 1 + 1, 1, none⟩ (.int .i64 Y)) by repeat (first | with_reducible exact own_refl _ | with_reducible assumption | with_reducible apply own_alloc | with_reducible apply own_drewN | with_reducible apply own_drew | ((with_reducible refine own_setCell ?_ ?_ _); rotate_left; focus (first | (simp; done) | (simp; omega))) | (with_reducible (refine own_trans ?_ (by assumption))))).trans (hb6.mono (Nat.le_succ _))
      have K0 := hk6 _ _ (G3.1.apart G3.2 C0) (C0.far2 (b := w.heap.size + 1 + 1 + 1 + 1) (by omega) (.int .i64 X) (.int .i64 Y))
      have K1 := hk6 _ _ (G3.1.apart G3.2 C1) (C1.far2 (b := w.heap.size + 1 + 1 + 1 + 1) (by omega) (.int .i64 X) (.int .i64 Y))
      have K2 := hk6 _ _ (G3.1.apart G3.2 C2) (C2.far2 (b := w.heap.size + 1 + 1 + 1 + 1) (by omega) (.int .i64 X) (.int .i64 Y))
      have K4 := hk6 _ _ (G3.1.apart G3.2 C4) (C4.put2 (.int .i64 X) (.int .i64 Y))
      have K5 := hk6 _ _ (G3.1.apart G3.2 C5) (C5.far2 (b := w.heap.size + 1 + 1 + 1 + 1) (by omega) (.int .i64 X) (.int .i64 Y))
      go_roundw
      case rel =>
        refine ⟨done ++ [82], wayM m 82, x - y, y, Lib.hid (HW.out.right HXL.out), Lib.hid ⟨by rw [wayL_snoc, HL.out.1], fun r hr => by rw [List.append_assoc]; exact HL.out.2 _ (.right HXL.out hr)⟩, by have := HN.out; have := HXL.out; have := HXY.out; simp; omega, T6, ⟨hG6, cap_some⟩, K0, K1, K2, ?_, ?_⟩
        · simpa [wayM, HX.out, HY.out] using K4
        · simpa [wayM, HX.out, HY.out] using K5
      case measure => rw [hG6.len]; have := HN.out; have := HXY.out; simp [lenOf]; omega
end Go.Proofs.YtpglcpolbhlekaaDoor
