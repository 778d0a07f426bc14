/- Tiers: contracts of both sides. -/
import Derived.Test.YthappdcoomgbpaaDoorFopI
import Derived.Test.YthappdcoomgbpaaDoorGrF
namespace Go.Proofs.YthappdcoomgbpaaDoor
open Go.ChangeShapes Go.WideShapes Go.ChangeAt Go.RowKit

/-- The tier of n below a place, flat. -/
def tierL : Nat → Mat → List Int
  | 0, m => [m.a + m.b, m.c + m.d]
  | n + 1, m => tierL n ⟨m.a + m.b, m.b, m.c + m.d, m.d⟩ ++ tierL n ⟨m.a, m.a + m.b, m.c, m.c + m.d⟩
theorem tierL_len : ∀ (n : Nat) (m : Mat), (tierL n m).length = 2 * 2 ^ n
  | 0, m => rfl
  | n + 1, m => by rw [tierL, List.length_append, tierL_len n, tierL_len n, Nat.pow_succ]; omega
theorem Pl.L {m : Mat} {k : Nat} (h : Pl m k) : Pl ⟨m.a + m.b, m.b, m.c + m.d, m.d⟩ (k + 1) := by rw [← stepM_L]; exact h.step 76
theorem Pl.R {m : Mat} {k : Nat} (h : Pl m k) : Pl ⟨m.a, m.a + m.b, m.c, m.c + m.d⟩ (k + 1) := by rw [← stepM_R m 82 (by decide)]; exact h.step 82
theorem GrF.one (w : World) (L : Nat) (hL : L ≤ w.heap.size) (y0 y1 : Int) : GrF (w.alloc (.cells #[.int .i64 y0, .int .i64 y1] 29)) L (.slice (some ⟨w.heap.size, 0, none⟩) 1 1) 1 [y0, y1] :=
  World.ownsRow_lit w #[.int .i64 y0, .int .i64 y1] 1 hL (by unfold maxLen; omega) rfl
theorem GrF.weak {w : World} {L L' n : Nat} {v : Value} {xs : List Int} (h : GrF w L v n xs) (hL : L' ≤ L) : GrF w L' v n xs := by
  obtain ⟨hl, hc⟩ := h
  refine ⟨hl, ?_⟩
  obtain hc | ⟨g, cap, cur, h1, h2, h3⟩ := hc
  · exact .inl hc
  · exact .inr ⟨g, cap, cur, h1, Nat.le_trans hL h2, h3⟩
/-- 'append(xs, ys...)' of two slices of the call's own. -/
theorem appFF {ops : Array Oper} {rest : List Oper} {ob : Oper} {a : Act} {Q : Exit → Act → World → Prop} (hgd : ob.guard = none) (s x : Operand)
    (ho : ob.op = .call { callee := .builtin .append, args := #[s, x], argTypes := #[39, 39] })
    (L : Nat) (w : World) (v u : Value) (n n2 : Nat) (xs ys : List Int) (hs : a.eval s = v) (hx : a.eval x = u) (hown : GrF w L v n xs) (L2 U2 : Nat) (hsl : SlF w L2 U2 u n2 ys) (h0 : 0 < n2)
    (hlen : n ≤ 1000000) (hlen2 : n2 ≤ 1000000) (hL : L ≤ w.heap.size)
    (h : ∀ v' w', GrF w' L v' (n + n2) (xs ++ ys) → Below L w w' → wpList Tryd.prog ops Q rest (a.put ob.dst v') w') : wpList Tryd.prog ops Q (ob :: rest) a w := by
  obtain ⟨i0, hi, hz0, hz1, hz2⟩ := info_parts info_elF
  obtain ⟨hl, hu, ad, cap, rfl, hc⟩ := hsl
  obtain ⟨g, rfl, _, hg, hcell⟩ := hc h0
  refine wpList_append_own _ hgd s x 39 ho L 29 i0 (.agg #[.int .i64 0, .int .i64 0]) 2 16 Tryd.underlying39 hi hz0 hz1 hz2 rfl (by decide) v n _ hs hown ⟨g, 0, none⟩ n2 cap (ys.map fun x => (.int .i64 x)) hx (by rw [List.length_map, hl, Nat.mul_comm]) ?_ ?_ ?_ ?_ ?_ ?_
  · intro j q hj
    rw [List.getElem?_map] at hj
    rcases Nat.lt_or_ge j ys.length with hlt | hge
    · rw [List.getElem?_eq_getElem hlt] at hj
      injection hj with hj
      subst hj
      have := (hcell j (by omega)).1
      rw [add_plain, Nat.zero_add]
      simpa [List.getD, List.getElem?_eq_getElem hlt] using this
    · rw [List.getElem?_eq_none hge] at hj; cases hj
  · intro q hq
    obtain ⟨y, _, rfl⟩ := List.mem_map.1 hq
    rfl
  · unfold maxLen; omega
  · omega
  · omega
  · intro v' w' hown' hgrow _
    refine h v' w' ?_ ?_
    · unfold GrF
      rw [List.map_append]
      exact hown'
    · exact (Below.refl L w).grown hgrow hL (fun j hj => (hown.lt j hj).1)
theorem step_appFF {ops : Array Oper} {ob : Oper} {a : Act} {w : World} {K : Act → World → Prop} {Q : Exit → Act → World → Prop} {E : Prop} (hgd : ob.guard = none) (s x : Operand)
    (ho : ob.op = .call { callee := .builtin .append, args := #[s, x], argTypes := #[39, 39] })
    (L : Nat) (v u : Value) (n n2 : Nat) (xs ys : List Int) (hs : a.eval s = v) (hx : a.eval x = u) (hown : GrF w L v n xs) (L2 U2 : Nat) (hsl : SlF w L2 U2 u n2 ys) (h0 : 0 < n2)
    (hlen : n ≤ 1000000) (hlen2 : n2 ≤ 1000000) (hL : L ≤ w.heap.size)
    (h : ∀ v' w', GrF w' L v' (n + n2) (xs ++ ys) → Below L w w' → K (a.put ob.dst v') w') :
    if Region.wanted ob (yielded ops a.tmps) = true then Oper.wp Tryd.prog ob a w K Q else E := by
  have hw : Region.wanted ob (yielded ops a.tmps) = true := by simp [Region.wanted, hgd]
  rw [if_pos hw]
  obtain ⟨i0, hi, hz0, hz1, hz2⟩ := info_parts info_elF
  obtain ⟨hl, hu, ad, cap, rfl, hc⟩ := hsl
  obtain ⟨g, rfl, _, hg, hcell⟩ := hc h0
  refine wp_append_own _ s x 39 ho L 29 i0 (.agg #[.int .i64 0, .int .i64 0]) 2 16 Tryd.underlying39 hi hz0 hz1 hz2 rfl (by decide) v n _ hs hown ⟨g, 0, none⟩ n2 cap (ys.map fun x => (.int .i64 x)) hx (by rw [List.length_map, hl, Nat.mul_comm]) ?_ ?_ ?_ ?_ ?_ ?_
  · intro j q hj
    rw [List.getElem?_map] at hj
    rcases Nat.lt_or_ge j ys.length with hlt | hge
    · rw [List.getElem?_eq_getElem hlt] at hj
      injection hj with hj
      subst hj
      have := (hcell j (by omega)).1
      rw [add_plain, Nat.zero_add]
      simpa [List.getD, List.getElem?_eq_getElem hlt] using this
    · rw [List.getElem?_eq_none hge] at hj; cases hj
  · intro q hq
    obtain ⟨y, _, rfl⟩ := List.mem_map.1 hq
    rfl
  · unfold maxLen; omega
  · omega
  · omega
  · intro v' w' hown' hgrow _
    refine h v' w' ?_ ?_
    · unfold GrF
      rw [List.map_append]
      exact hown'
    · exact (Below.refl L w).grown hgrow hL (fun j hj => (hown.lt j hj).1)
theorem mulL_any (m : Mat) (k : Nat) (h : Pl m k) (hk : k ≤ 40) (w : World) :
    Calls Tryd.prog 64 #[(.agg #[.int .i64 m.a, .int .i64 m.b, .int .i64 m.c, .int .i64 m.d]), (.agg #[.int .i64 1, .int .i64 0, .int .i64 1, .int .i64 1])] w fun r w' => r = .returned (.agg #[.int .i64 (m.a + m.b), .int .i64 m.b, .int .i64 (m.c + m.d), .int .i64 m.d]) ∧ Below w.heap.size w w' := by
  obtain ⟨e1, e2, e3, e4⟩ := Mat.ok_ent (h.ok hk)
  have := multiply_ent m.a m.b m.c m.d 1 0 1 1 e1 e2 e3 e4 (by unfold Ent; omega) (by unfold Ent; omega) (by unfold Ent; omega) (by unfold Ent; omega) w
  have q1 : m.a * 1 + m.b * 1 = m.a + m.b := by omega
  have q2 : m.a * 0 + m.b * 1 = m.b := by omega
  have q3 : m.c * 1 + m.d * 1 = m.c + m.d := by omega
  have q4 : m.c * 0 + m.d * 1 = m.d := by omega
  rwa [q1, q2, q3, q4] at this
theorem mulR_any (m : Mat) (k : Nat) (h : Pl m k) (hk : k ≤ 40) (w : World) :
    Calls Tryd.prog 64 #[(.agg #[.int .i64 m.a, .int .i64 m.b, .int .i64 m.c, .int .i64 m.d]), (.agg #[.int .i64 1, .int .i64 1, .int .i64 0, .int .i64 1])] w fun r w' => r = .returned (.agg #[.int .i64 m.a, .int .i64 (m.a + m.b), .int .i64 m.c, .int .i64 (m.c + m.d)]) ∧ Below w.heap.size w w' := by
  obtain ⟨e1, e2, e3, e4⟩ := Mat.ok_ent (h.ok hk)
  have := multiply_ent m.a m.b m.c m.d 1 1 0 1 e1 e2 e3 e4 (by unfold Ent; omega) (by unfold Ent; omega) (by unfold Ent; omega) (by unfold Ent; omega) w
  have q1 : m.a * 1 + m.b * 0 = m.a := by omega
  have q2 : m.a * 1 + m.b * 1 = m.a + m.b := by omega
  have q3 : m.c * 1 + m.d * 0 = m.c := by omega
  have q4 : m.c * 1 + m.d * 1 = m.c + m.d := by omega
  rwa [q1, q2, q3, q4] at this
theorem pathF_L : pathF (byteK 76) = some ⟨1, 0, 1, 1⟩ := by rw [pathF_at]; rfl
theorem pathF_R : pathF (byteK 82) = some ⟨1, 1, 0, 1⟩ := by rw [pathF_at]; rfl
set_option maxRecDepth 100000 in
set_option maxHeartbeats 4000000 in
theorem tierBelow_any (n : Nat) : ∀ (m : Mat) (k : Nat), Pl m k → k + n ≤ 19 → ∀ w : World,
    Calls Tryd.prog 43 #[(.agg #[.int .i64 m.a, .int .i64 m.b, .int .i64 m.c, .int .i64 m.d]), (.int .i64 n)] w fun e w' => ∃ v, e = .returned v ∧ GrF w' w.heap.size v (2 ^ n) (tierL n m) ∧ Below w.heap.size w w' := by
  induction n with
  | zero =>
    intro m k h hk w
    obtain ⟨_, _, m1, m2, _⟩ := h.low (by omega)
    have HM1 := Lib.hid m1
    have HM2 := Lib.hid m2
    clear m1 m2
    show Calls Tryd.prog 43 #[(.agg #[.int .i64 m.a, .int .i64 m.b, .int .i64 m.c, .int .i64 m.d]), (.int .i64 0)] w _
    go_enter Tryd.func43, Tryd.ntmps43
    go_wp2_with fail
    refine (fractionAt_any _ _ _ _ HM1.out HM2.out _).mono ?_
    rintro e w1 ⟨rfl, hb1⟩
    have T1 : Below w.heap.size w w1 := by repeat (first | with_reducible exact own_refl _ | with_reducible assumption | with_reducible apply own_alloc | with_reducible apply own_drewN | with_reducible apply own_drew | ((with_reducible refine own_setCell ?_ ?_ _); rotate_left; focus (first | (simp; done) | (simp; omega))) | (with_reducible (refine own_trans ?_ (by assumption))))
    have G := Lib.hid (GrF.one w1 w.heap.size T1.size (m.a + m.b) (m.c + m.d))
    go_wp2
    go_ret
    exact ⟨_, rfl, G.out, by repeat (first | with_reducible exact own_refl _ | with_reducible assumption | with_reducible apply own_alloc | with_reducible apply own_drewN | with_reducible apply own_drew | ((with_reducible refine own_setCell ?_ ?_ _); rotate_left; focus (first | (simp; done) | (simp; omega))) | (with_reducible (refine own_trans ?_ (by assumption))))⟩
  | succ n ih =>
    intro m k h hk w
    have HL := Lib.hid (ih _ _ h.L (by omega))
    have HR := Lib.hid (ih _ _ h.R (by omega))
    have HML := Lib.hid (mulL_any m k h (by omega))
    have HMR := Lib.hid (mulR_any m k h (by omega))
    have hp2 : 2 ^ n ≤ 1000000 := Nat.le_trans (Nat.pow_le_pow_right (by omega) (show n ≤ 19 by omega)) (by decide)
    have hp0 : 0 < 2 ^ n := Nat.pow_pos (by omega)
    have hn0 : (((n + 1 : Nat) : Int) == 0) = false := by simp; omega
    have hw0 : IntKind.i64.wrap (((n + 1 : Nat) : Int) - 1) = (n : Int) := by rw [show ((n + 1 : Nat) : Int) - 1 = (n : Int) by omega]; exact IntWalk.i64_in _ (by omega)
    obtain ⟨z, hz⟩ : ∃ z : Int, ((n + 1 : Nat) : Int) = z := ⟨_, rfl⟩
    rw [hz] at hn0 hw0 ⊢
    have hzb : 0 < z ∧ z ≤ 40 := by omega
    clear ih h hz
    go_enter Tryd.func43, Tryd.ntmps43
    go_wp2_with fail
    refine (pathL_any _).mono ?_
    rintro e w1 ⟨rfl, hM, hb1⟩
    simp only [World.size_alloc] at hM
    have T1 : Below w.heap.size w w1 := by repeat (first | with_reducible exact own_refl _ | with_reducible assumption | with_reducible apply own_alloc | with_reducible apply own_drewN | with_reducible apply own_drew | ((with_reducible refine own_setCell ?_ ?_ _); rotate_left; focus (first | (simp; done) | (simp; omega))) | (with_reducible (refine own_trans ?_ (by assumption))))
    have R1 : Box w1 w.heap.size [.int .i64 m.a, .int .i64 m.b, .int .i64 m.c, .int .i64 m.d] := Box.below (Box.new _ _ _) hb1
    obtain ⟨_, _, _, _, _, _, _, _, _⟩ := R1.four
    have hlk := hM.look1 byte_keyed (.int .u8 76) (byteK 76) (byte_key 76)
    rw [pathF_L] at hlk
    simp only [Option.getD_some, matV] at hlk
    go_wp2_with fail
    refine (HML.out _).mono ?_
    rintro e w2 ⟨rfl, hb2⟩
    have T2 := own_trans T1 hb2
    have R2 := R1.below hb2
    have hM2 := hM.below hb2
    clear hlk hM hb1
    go_wp2_with fail
    refine (HL.out _).mono ?_
    rintro e w3 ⟨v1, rfl, G1, hb3⟩
    have T3 := own_trans T2 hb3
    have R3 := R2.below hb3
    have hM3 := hM2.below hb3
    obtain ⟨_, _, _, _, _, _, _, _, _⟩ := R3.four
    have hlk := hM3.look1 byte_keyed (.int .u8 82) (byteK 82) (byte_key 82)
    rw [pathF_R] at hlk
    simp only [Option.getD_some, matV] at hlk
    go_wp2_with fail
    refine (HMR.out _).mono ?_
    rintro e w4 ⟨rfl, hb4⟩
    have T4 := own_trans T3 hb4
    have G4 := G1.own hb4
    go_wp2_with fail
    refine (HR.out _).mono ?_
    rintro e w5 ⟨v2, rfl, G2, hb5⟩
    have T5 := own_trans T4 hb5
    have G5 := G4.own hb5
    have hL2 : w.heap.size ≤ w2.heap.size := T2.size
    go_wp2_with (at_builtin; refine appFF rfl _ _ rfl w2.heap.size w5 v1 v2 (2 ^ n) (2 ^ n) _ _ rfl rfl G5 _ _ G2.sl hp0 hp2 hp2 (Nat.le_trans hb3.size (Nat.le_trans hb4.size hb5.size)) ?_; intro v' w6 hG6 hb6)
    go_wp2
    go_ret
    have HG := Lib.hid (hG6.weak hL2)
    exact ⟨_, rfl, by rw [Nat.pow_succ, Nat.mul_two]; exact HG.out, T5.trans (hb6.mono hL2)⟩
set_option maxRecDepth 100000 in
set_option maxHeartbeats 4000000 in
theorem specTier_any (n : Nat) : ∀ (m : Mat) (k : Nat), Pl m k → k + n ≤ 19 → ∀ w : World,
    Calls Tryd.prog 42 #[(.agg #[.int .i64 m.b, .int .i64 m.d]), (.agg #[.int .i64 m.a, .int .i64 m.c]), (.int .i64 n)] w fun e w' => ∃ v, e = .returned v ∧ GrF w' w.heap.size v (2 ^ n) (tierL n m) ∧ Below w.heap.size w w' := by
  induction n with
  | zero =>
    intro m k h hk w
    have HMED := Lib.hid (medPl m k h (by omega))
    show Calls Tryd.prog 42 #[(.agg #[.int .i64 m.b, .int .i64 m.d]), (.agg #[.int .i64 m.a, .int .i64 m.c]), (.int .i64 0)] w _
    go_enter Tryd.func42, Tryd.ntmps42
    go_wp2_with fail
    refine (HMED.out _).mono ?_
    rintro e w1 ⟨rfl, hb1⟩
    have T1 : Below w.heap.size w (w1.alloc (.cells #[.int .i64 (m.a + m.b), .int .i64 (m.c + m.d)] 29)) := by repeat (first | with_reducible exact own_refl _ | with_reducible assumption | with_reducible apply own_alloc | with_reducible apply own_drewN | with_reducible apply own_drew | ((with_reducible refine own_setCell ?_ ?_ _); rotate_left; focus (first | (simp; done) | (simp; omega))) | (with_reducible (refine own_trans ?_ (by assumption))))
    have G0 := GrF.one (w1.alloc (.cells #[.int .i64 (m.a + m.b), .int .i64 (m.c + m.d)] 29)) w.heap.size T1.size (m.a + m.b) (m.c + m.d)
    simp only [World.size_alloc] at G0
    have G := Lib.hid G0
    clear G0
    have hz := Lib.hid T1
    go_wp2
    go_ret
    exact ⟨_, rfl, G.out, by have := hz.out; repeat (first | with_reducible exact own_refl _ | with_reducible assumption | with_reducible apply own_alloc | with_reducible apply own_drewN | with_reducible apply own_drew | ((with_reducible refine own_setCell ?_ ?_ _); rotate_left; focus (first | (simp; done) | (simp; omega))) | (with_reducible (refine own_trans ?_ (by assumption))))⟩
  | succ n ih =>
    intro m k h hk w
    have HL := Lib.hid (ih _ _ h.L (by omega))
    have HR := Lib.hid (ih _ _ h.R (by omega))
    have HMED := Lib.hid (medPl m k h (by omega))
    have hp2 : 2 ^ n ≤ 1000000 := Nat.le_trans (Nat.pow_le_pow_right (by omega) (show n ≤ 19 by omega)) (by decide)
    have hp0 : 0 < 2 ^ n := Nat.pow_pos (by omega)
    have hn0 : (((n + 1 : Nat) : Int) == 0) = false := by simp; omega
    have hw0 : IntKind.i64.wrap (((n + 1 : Nat) : Int) - 1) = (n : Int) := by rw [show ((n + 1 : Nat) : Int) - 1 = (n : Int) by omega]; exact IntWalk.i64_in _ (by omega)
    obtain ⟨z, hz⟩ : ∃ z : Int, ((n + 1 : Nat) : Int) = z := ⟨_, rfl⟩
    rw [hz] at hn0 hw0 ⊢
    have hzb : 0 < z ∧ z ≤ 40 := by omega
    clear ih h hz
    go_enter Tryd.func42, Tryd.ntmps42
    go_wp2_with fail
    refine (HMED.out _).mono ?_
    rintro e w1 ⟨rfl, hb1⟩
    have T0 : Below w.heap.size w w1 := by repeat (first | with_reducible exact own_refl _ | with_reducible assumption | with_reducible apply own_alloc | with_reducible apply own_drewN | with_reducible apply own_drew | ((with_reducible refine own_setCell ?_ ?_ _); rotate_left; focus (first | (simp; done) | (simp; omega))) | (with_reducible (refine own_trans ?_ (by assumption))))
    have l0 : Box w1 w.heap.size [.int .i64 m.b, .int .i64 m.d] := Box.below (Box.alloc (Box.new _ _ _) _) hb1
    have r0 : Box w1 (w.heap.size + 1) [.int .i64 m.a, .int .i64 m.c] := Box.below (Box.newAt (by simp) _ _) hb1
    have hl := l0.alloc (.cells #[.int .i64 (m.a + m.b), .int .i64 (m.c + m.d)] 29)
    have hr := r0.alloc (.cells #[.int .i64 (m.a + m.b), .int .i64 (m.c + m.d)] 29)
    have hm := Box.new w1 [.int .i64 (m.a + m.b), .int .i64 (m.c + m.d)] 29
    have T := own_alloc T0 (.cells #[.int .i64 (m.a + m.b), .int .i64 (m.c + m.d)] 29)
    clear T0 l0 r0 hb1
    go_upto_region 4 with fail
    generalize w1.alloc (.cells #[.int .i64 (m.a + m.b), .int .i64 (m.c + m.d)] 29) = wx at hl hr hm T ⊢
    generalize w1.heap.size = gm at hm ⊢
    have bl := hl.1
    have br := hr.1
    have bm := hm.1
    obtain ⟨_, l0, l1, _, _⟩ := hl.two
    obtain ⟨_, r0, r1, _, _⟩ := hr.two
    obtain ⟨_, m0, m1, _, _⟩ := hm.two
    go_region_held3 (fun w' => w'.cell? ⟨w.heap.size, 0, none⟩ = some (.int .i64 m.b) ∧ w'.cell? ⟨w.heap.size, 1, none⟩ = some (.int .i64 m.d) ∧ w'.cell? ⟨w.heap.size + 1, 0, none⟩ = some (.int .i64 m.a) ∧ w'.cell? ⟨w.heap.size + 1, 1, none⟩ = some (.int .i64 m.c) ∧ w'.cell? ⟨gm, 0, none⟩ = some (.int .i64 (m.a + m.b)) ∧ w'.cell? ⟨gm, 1, none⟩ = some (.int .i64 (m.c + m.d))) (first | exact ⟨l0, l1, r0, r1, m0, m1⟩ | go_keep)
      (first
        | (go_at_call 42; have G0 := G1; clear G0; refine (HR.out _).mono ?_; rintro e w3 ⟨v2, rfl, G2, hb3⟩; have T := own_trans T hb3; have G1 := G1.own hb3; have hl := hl.below hb3; have hr := hr.below hb3; have hm := hm.below hb3; have hz3 : wx.heap.size ≤ w3.heap.size := Nat.le_trans hz2 hb3.size; obtain ⟨_, l0, l1, _, _⟩ := hl.two; obtain ⟨_, r0, r1, _, _⟩ := hr.two; obtain ⟨_, m0, m1, _, _⟩ := hm.two)
        | (go_at_call 42; refine (HL.out _).mono ?_; rintro e w2 ⟨v1, rfl, G1, hb2⟩; have T := own_trans (own_drew T) hb2; have hl := Box.below (Box.drew hl) hb2; have hr := Box.below (Box.drew hr) hb2; have hm := Box.below (Box.drew hm) hb2; have hz2 : wx.heap.size ≤ w2.heap.size := hb2.size; obtain ⟨_, l0, l1, _, _⟩ := hl.two; obtain ⟨_, r0, r1, _, _⟩ := hr.two; obtain ⟨_, m0, m1, _, _⟩ := hm.two)
        | (refine step_appFF (by rfl) _ _ (by rfl) wx.heap.size v1 v2 (2 ^ n) (2 ^ n) _ _ (by rfl) (by rfl) G1 _ _ G2.sl hp0 hp2 hp2 hz3 ?_; intro v' w6 hG6 hb6; have T := T.trans (hb6.mono (Nat.le_of_lt bl)); have hl := hl.low hb6 bl; have hr := hr.low hb6 br; have hm := hm.low hb6 bm; obtain ⟨_, l0, l1, _, _⟩ := hl.two; obtain ⟨_, r0, r1, _, _⟩ := hr.two; obtain ⟨_, m0, m1, _, _⟩ := hm.two))
    have HG := Lib.hid (hG6.weak (Nat.le_of_lt bl))
    go_wp2
    go_ret
    exact ⟨_, rfl, by rw [Nat.pow_succ, Nat.mul_two]; exact HG.out, T⟩
end Go.Proofs.YthappdcoomgbpaaDoor
