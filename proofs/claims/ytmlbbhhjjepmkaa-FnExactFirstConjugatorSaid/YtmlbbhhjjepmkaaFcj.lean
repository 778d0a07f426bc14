/- FirstConjugator: what leads, and both sides' test. -/
import Derived.Test.YtmlbbhhjjepmkaaMul
import Derived.Test.YtmlbbhhjjepmkaaMat
import Derived.Test.YtmlbbhhjjepmkaaMwI
namespace Go.Proofs.Ytmlbbhhjjepmkaa
open Go.ChangeShapes Go.WideShapes Go.ChangeAt Go.RowKit

def ld0 (m n g : Mat) : Prop := g.a * m.a + g.b * m.c = n.a * g.a + n.b * g.c
def ld1 (m n g : Mat) : Prop := g.a * m.b + g.b * m.d = n.a * g.b + n.b * g.d
def ld2 (m n g : Mat) : Prop := g.c * m.a + g.d * m.c = n.c * g.a + n.d * g.c
def ld3 (m n g : Mat) : Prop := g.c * m.b + g.d * m.d = n.c * g.b + n.d * g.d
/-- g leads m to n. -/
def ldP (m n g : Mat) : Prop := ld0 m n g ∧ ld1 m n g ∧ ld2 m n g ∧ ld3 m n g
def entM (m : Mat) : Prop := Ent m.a ∧ Ent m.b ∧ Ent m.c ∧ Ent m.d
/-- Bounds of all products. -/
structure PB (m n g : Mat) : Prop where
  p1 : -1000000000000000000 ≤ g.a * m.a ∧ g.a * m.a ≤ 1000000000000000000
  p2 : -1000000000000000000 ≤ g.b * m.c ∧ g.b * m.c ≤ 1000000000000000000
  p3 : -1000000000000000000 ≤ g.a * m.b ∧ g.a * m.b ≤ 1000000000000000000
  p4 : -1000000000000000000 ≤ g.b * m.d ∧ g.b * m.d ≤ 1000000000000000000
  p5 : -1000000000000000000 ≤ g.c * m.a ∧ g.c * m.a ≤ 1000000000000000000
  p6 : -1000000000000000000 ≤ g.d * m.c ∧ g.d * m.c ≤ 1000000000000000000
  p7 : -1000000000000000000 ≤ g.c * m.b ∧ g.c * m.b ≤ 1000000000000000000
  p8 : -1000000000000000000 ≤ g.d * m.d ∧ g.d * m.d ≤ 1000000000000000000
  q1 : -1000000000000000000 ≤ n.a * g.a ∧ n.a * g.a ≤ 1000000000000000000
  q2 : -1000000000000000000 ≤ n.b * g.c ∧ n.b * g.c ≤ 1000000000000000000
  q3 : -1000000000000000000 ≤ n.a * g.b ∧ n.a * g.b ≤ 1000000000000000000
  q4 : -1000000000000000000 ≤ n.b * g.d ∧ n.b * g.d ≤ 1000000000000000000
  q5 : -1000000000000000000 ≤ n.c * g.a ∧ n.c * g.a ≤ 1000000000000000000
  q6 : -1000000000000000000 ≤ n.d * g.c ∧ n.d * g.c ≤ 1000000000000000000
  q7 : -1000000000000000000 ≤ n.c * g.b ∧ n.c * g.b ≤ 1000000000000000000
  q8 : -1000000000000000000 ≤ n.d * g.d ∧ n.d * g.d ≤ 1000000000000000000
theorem PB.of {m n g : Mat} (hm : entM m) (hn : entM n) (hg : entM g) : PB m n g := by
  obtain ⟨m1, m2, m3, m4⟩ := hm
  obtain ⟨n1, n2, n3, n4⟩ := hn
  obtain ⟨g1, g2, g3, g4⟩ := hg
  exact ⟨ent_mul g1 m1, ent_mul g2 m3, ent_mul g1 m2, ent_mul g2 m4, ent_mul g3 m1, ent_mul g4 m3, ent_mul g3 m2, ent_mul g4 m4,
    ent_mul n1 g1, ent_mul n2 g3, ent_mul n1 g2, ent_mul n2 g4, ent_mul n3 g1, ent_mul n4 g3, ent_mul n3 g2, ent_mul n4 g4⟩

set_option maxHeartbeats 4000000 in
theorem specLeads (m n g : Mat) (hm : entM m) (hn : entM n) (hg : entM g) (r : Bool) (hr : r = true ↔ ldP m n g) (w : World) :
    Calls Try.prog 16 #[(.agg #[.int .i64 m.a, .int .i64 m.b, .int .i64 m.c, .int .i64 m.d]), (.agg #[.int .i64 n.a, .int .i64 n.b, .int .i64 n.c, .int .i64 n.d]), (.agg #[.int .i64 g.a, .int .i64 g.b, .int .i64 g.c, .int .i64 g.d])] w fun e w' => e = .returned (.bool r) ∧ Below w.heap.size w w' := by
  obtain ⟨p1, p2, p3, p4, p5, p6, p7, p8, q1, q2, q3, q4, q5, q6, q7, q8⟩ := PB.of hm hn hg
  clear hm hn hg
  by_cases h0 : ld0 m n g
  · have b0 : (g.a * m.a + g.b * m.c != n.a * g.a + n.b * g.c) = false := by unfold ld0 at h0; simpa using h0
    by_cases h1 : ld1 m n g
    · have b1 : (g.a * m.b + g.b * m.d != n.a * g.b + n.b * g.d) = false := by unfold ld1 at h1; simpa using h1
      by_cases h2 : ld2 m n g
      · have b2 : (g.c * m.a + g.d * m.c != n.c * g.a + n.d * g.c) = false := by unfold ld2 at h2; simpa using h2
        by_cases h3 : ld3 m n g
        · have b3 : (g.c * m.b + g.d * m.d != n.c * g.b + n.d * g.d) = false := by unfold ld3 at h3; simpa using h3
          have HR := Lib.hid (show r = true from hr.2 ⟨h0, h1, h2, h3⟩)
          clear h0 h1 h2 h3 hr
          go_enter Try.func16, Try.ntmps16
          go_wp2
          go_rounds 5
          go_quiet (fail)
          go_wp2
          repeat (rw [rounds_succ]; go_wp2; go_quiet (fail); go_wp2)
          try (rw [rounds_succ]; go_wp2)
          go_ret
          exact ⟨ret_bool HR.out.symm, by repeat (first | with_reducible exact own_refl _ | with_reducible assumption | with_reducible apply own_alloc | with_reducible apply own_drewN | with_reducible apply own_drew | ((with_reducible refine own_setCell ?_ ?_ _); rotate_left; focus (first | (simp; done) | (simp; omega))) | (with_reducible (refine own_trans ?_ (by assumption))))⟩
        · have b3 : (g.c * m.b + g.d * m.d != n.c * g.b + n.d * g.d) = true := by unfold ld3 at h3; simpa using h3
          have HR := Lib.hid (show r = false from Bool.eq_false_iff.2 fun e => absurd (hr.1 e).2.2.2 h3)
          clear h0 h1 h2 h3 hr
          go_enter Try.func16, Try.ntmps16
          go_wp2
          go_rounds 5
          go_quiet (fail)
          go_wp2
          repeat (rw [rounds_succ]; go_wp2; go_quiet (fail); go_wp2)
          try (rw [rounds_succ]; go_wp2)
          go_ret
          exact ⟨ret_bool HR.out.symm, by repeat (first | with_reducible exact own_refl _ | with_reducible assumption | with_reducible apply own_alloc | with_reducible apply own_drewN | with_reducible apply own_drew | ((with_reducible refine own_setCell ?_ ?_ _); rotate_left; focus (first | (simp; done) | (simp; omega))) | (with_reducible (refine own_trans ?_ (by assumption))))⟩
      · have b2 : (g.c * m.a + g.d * m.c != n.c * g.a + n.d * g.c) = true := by unfold ld2 at h2; simpa using h2
        have HR := Lib.hid (show r = false from Bool.eq_false_iff.2 fun e => absurd (hr.1 e).2.2.1 h2)
        clear h0 h1 h2 hr
        go_enter Try.func16, Try.ntmps16
        go_wp2
        go_rounds 5
        go_quiet (fail)
        go_wp2
        repeat (rw [rounds_succ]; go_wp2; go_quiet (fail); go_wp2)
        try (rw [rounds_succ]; go_wp2)
        go_ret
        exact ⟨ret_bool HR.out.symm, by repeat (first | with_reducible exact own_refl _ | with_reducible assumption | with_reducible apply own_alloc | with_reducible apply own_drewN | with_reducible apply own_drew | ((with_reducible refine own_setCell ?_ ?_ _); rotate_left; focus (first | (simp; done) | (simp; omega))) | (with_reducible (refine own_trans ?_ (by assumption))))⟩
    · have b1 : (g.a * m.b + g.b * m.d != n.a * g.b + n.b * g.d) = true := by unfold ld1 at h1; simpa using h1
      have HR := Lib.hid (show r = false from Bool.eq_false_iff.2 fun e => absurd (hr.1 e).2.1 h1)
      clear h0 h1 hr
      go_enter Try.func16, Try.ntmps16
      go_wp2
      go_rounds 5
      go_quiet (fail)
      go_wp2
      repeat (rw [rounds_succ]; go_wp2; go_quiet (fail); go_wp2)
      try (rw [rounds_succ]; go_wp2)
      go_ret
      exact ⟨ret_bool HR.out.symm, by repeat (first | with_reducible exact own_refl _ | with_reducible assumption | with_reducible apply own_alloc | with_reducible apply own_drewN | with_reducible apply own_drew | ((with_reducible refine own_setCell ?_ ?_ _); rotate_left; focus (first | (simp; done) | (simp; omega))) | (with_reducible (refine own_trans ?_ (by assumption))))⟩
  · have b0 : (g.a * m.a + g.b * m.c != n.a * g.a + n.b * g.c) = true := by unfold ld0 at h0; simpa using h0
    have HR := Lib.hid (show r = false from Bool.eq_false_iff.2 fun e => absurd (hr.1 e).1 h0)
    clear h0 hr
    go_enter Try.func16, Try.ntmps16
    go_wp2
    go_rounds 5
    go_quiet (fail)
    go_wp2
    repeat (rw [rounds_succ]; go_wp2; go_quiet (fail); go_wp2)
    try (rw [rounds_succ]; go_wp2)
    go_ret
    exact ⟨ret_bool HR.out.symm, by repeat (first | with_reducible exact own_refl _ | with_reducible assumption | with_reducible apply own_alloc | with_reducible apply own_drewN | with_reducible apply own_drew | ((with_reducible refine own_setCell ?_ ?_ _); rotate_left; focus (first | (simp; done) | (simp; omega))) | (with_reducible (refine own_trans ?_ (by assumption))))⟩
theorem Box.reads4C {w : World} {g : Nat} {x0 x1 x2 x3 : Value} (h : Box w g [x0, x1, x2, x3]) (y0 y1 y2 y3 : Value) :
    (w.setCell ⟨g, 0, none⟩ y0).cell? ⟨g, 0, none⟩ = some y0 ∧ ((w.setCell ⟨g, 0, none⟩ y0).setCell ⟨g, 1, none⟩ y1).cell? ⟨g, 1, none⟩ = some y1 ∧
      (((w.setCell ⟨g, 0, none⟩ y0).setCell ⟨g, 1, none⟩ y1).setCell ⟨g, 2, none⟩ y2).cell? ⟨g, 2, none⟩ = some y2 ∧ ((((w.setCell ⟨g, 0, none⟩ y0).setCell ⟨g, 1, none⟩ y1).setCell ⟨g, 2, none⟩ y2).setCell ⟨g, 3, none⟩ y3).cell? ⟨g, 3, none⟩ = some y3 :=
  ⟨((h.set 0 (by simp) y0).four).2.1, (((h.set 0 (by simp) y0).set 1 (by simp) y1).four).2.2.1, ((((h.set 0 (by simp) y0).set 1 (by simp) y1).set 2 (by simp) y2).four).2.2.2.1, (h.put4 y0 y1 y2 y3).four.2.2.2.2.1⟩
end Go.Proofs.Ytmlbbhhjjepmkaa
