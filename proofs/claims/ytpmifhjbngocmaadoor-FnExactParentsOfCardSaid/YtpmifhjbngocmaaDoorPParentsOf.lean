/- The law FnExactParentsOf returns true at every argument, and its argument reads as before, where the package's tables identity and errNoFraction hold what the program's text lays. -/
import Derived.Test.YtpmifhjbngocmaaDoorGr
import Derived.Test.YtpmifhjbngocmaaDoorCf
import Derived.Test.YtpmifhjbngocmaaDoorMorI
import Derived.Test.YtpmifhjbngocmaaDoorFop
import Derived.Test.YtpmifhjbngocmaaDoorSCmp
import Derived.Test.YtpmifhjbngocmaaDoorDoorM
import Derived.Test.YtpmifhjbngocmaaDoorMorE
import Derived.Test.YtpmifhjbngocmaaDoorCont
import Derived.Test.YtpmifhjbngocmaaDoorB
import Derived.Test.YtpmifhjbngocmaaDoorEqF
import Derived.Test.YtpmifhjbngocmaaDoorOpen
import Derived.Test.YtpmifhjbngocmaaDoorCards
import Derived.Test.YtpmifhjbngocmaaDoorTie
import Derived.Test.YtpmifhjbngocmaaDoorErrOf
import Derived.Test.YtpmifhjbngocmaaDoorIdn
import Derived.Deep.DeepHandedRow
import Derived.Lib.LaidTab
import Derived.Lay
import Derived.LaidMore
import Derived.LaidSub
/- Slices of bytes that a call makes by append. -/
namespace Go.Proofs.YtpmifhjbngocmaaDoor
open Go.ChangeShapes Go.WideShapes Go.ChangeAt Go.RowKit

theorem info_u8 : (Tryd.prog.info? 5).map (fun i => (i.zero, i.size, i.bytes)) = some (some (.int .u8 0), 1, 1) := by kernel_rfl

/-- The slice v owns a row of blocks from L on, and reads as xs. -/
def GrB (w : World) (L : Nat) (v : Value) (xs : List Int) : Prop := w.ownsRow L 5 1 v xs.length (xs.map fun x => Value.int .u8 x)
theorem GrB.nil (w : World) (L : Nat) : GrB w L (.slice none 0 0) [] := World.ownsRow_nil _ _ _ _
theorem GrB.own {w w' : World} {L : Nat} {v : Value} {xs : List Int} (h : GrB w L v xs) (hb : Below w.heap.size w w') : GrB w' L v xs := by
  refine World.ownsRow.kept (row := none) h ⟨hb.os, hb.tape, hb.output, hb.size, fun k hk _ => hb.block k hk⟩ ?_
  rcases e : v.ownBlock with _ | k
  · exact .inl rfl
  · exact .inr (by simp)
theorem GrB.len {w : World} {L : Nat} {v : Value} {xs : List Int} (h : GrB w L v xs) : lenOf v = xs.length := by
  obtain ⟨hl, ⟨rfl, h0⟩ | ⟨g, cap, cur, rfl, _⟩⟩ := h
  · exact h0.symm
  · rfl
theorem GrB.shape {w : World} {L : Nat} {v : Value} {xs : List Int} (h : GrB w L v xs) : ∃ ad cap, v = .slice ad xs.length cap := by
  obtain ⟨hl, ⟨rfl, h0⟩ | ⟨g, cap, cur, rfl, _⟩⟩ := h
  · exact ⟨none, 0, by rw [h0]⟩
  · exact ⟨_, cap, rfl⟩
theorem GrB.alloc {w : World} {L : Nat} {v : Value} {xs : List Int} (h : GrB w L v xs) (o : Obj) : GrB (w.alloc o) L v xs := World.ownsRow.alloc h o
theorem GrB.drew {w : World} {L : Nat} {v : Value} {xs : List Int} (h : GrB w L v xs) : GrB w.drew L v xs := h
theorem GrB.set {w : World} {L : Nat} {v : Value} {xs : List Int} (h : GrB w L v xs) {p : Addr} (hp : p.block < L) (u : Value) : GrB (w.setCell p u) L v xs := ownsRow_setCell_below h hp u
/-- 'xs = append(xs, y)': the list grows by y; nothing below L turns. -/
theorem app8 {ops : Array Oper} {rest : List Oper} {o : Oper} {a : Act} {Q : Exit → Act → World → Prop} (hgd : o.guard = none) (s x : Operand)
    (ho : o.op = .call { callee := .builtin .append, args := #[s, x], argTypes := #[49, 49] })
    (L : Nat) (w : World) (v : Value) (xs : List Int) (y : Int) (hs : a.eval s = v) (hown : GrB w L v xs) (g : Nat) (hx : a.eval x = .slice (some ⟨g, 0, none⟩) 1 1)
    (hg : w.heap.size = g) (hlen : xs.length ≤ 9000000000) (hL : L ≤ w.heap.size)
    (h : ∀ v' w', GrB w' L v' (xs ++ [y]) → Below L w w' → (∀ b r, (∀ g, v.ownBlock = some g → g ≠ b) → Box w b r → Box w' b r) → wpList Tryd.prog ops Q rest (a.put o.dst v') w') : wpList Tryd.prog ops Q (o :: rest) a (w.alloc (.cells #[(.int .u8 y)] 5)) := by
  obtain ⟨i0, hi, hz0, hz1, hz2⟩ := info_parts info_u8
  subst hg
  refine wpList_append_own _ hgd s x 49 ho L 5 i0 (.int .u8 0) 1 1 Tryd.underlying49 hi hz0 hz1 hz2 rfl (by decide) v xs.length _ hs (GrB.alloc hown _) ⟨w.heap.size, 0, none⟩ 1 1 [(.int .u8 y)] hx rfl ?_ ?_ ?_ ?_ ?_ ?_
  · intro j u hj
    match j, hj with
    | 0, hj => simp at hj; subst hj; simp [Addr.add]
  · intro u hu; simp at hu; subst hu; rfl
  · unfold maxLen; omega
  · omega
  · simp; omega
  · intro v' w' hown' hgrow _
    refine h v' w' ?_ ?_ ?_
    · have e : (xs ++ [y]).length = xs.length + 1 := by simp
      unfold GrB
      rw [e, List.map_append]
      exact hown'
    · have hb : Below L w (w.alloc (.cells #[(.int .u8 y)] 5)) := (Below.refl L w).alloc hL _
      exact hb.grown hgrow (by simp; omega) (fun j hj => (hown.lt j hj).1)
    · intro b r hne hB
      have hA := hB.alloc (.cells #[(.int .u8 y)] 5)
      have hk := hgrow.block b hA.1 (fun e => hne b e.symm rfl)
      refine ⟨Nat.lt_of_lt_of_le hA.1 hgrow.size, fun i u hu => ⟨?_, ?_⟩⟩
      · exact (World.cell?_of_block (a := ⟨b, i, none⟩) hk).trans (hA.2 i u hu).1
      · exact (World.frozen?_of_block (a := ⟨b, i, none⟩) hk).trans (hA.2 i u hu).2
end Go.Proofs.YtpmifhjbngocmaaDoor

/- The runs of a path: mathematics. -/
namespace Go.Proofs.YtpmifhjbngocmaaDoor
open Go.ChangeShapes Go.WideShapes Go.ChangeAt Go.RowKit

/-- the last number less one -/
def decL : List Int → List Int
  | [] => []
  | [x] => [x - 1]
  | x :: y :: r => x :: decL (y :: r)
theorem decL_len : ∀ xs : List Int, (decL xs).length = xs.length
  | [] => rfl
  | [_] => rfl
  | x :: y :: r => by simp [decL, decL_len (y :: r)]
theorem decL_set : ∀ (xs : List Int), 0 < xs.length → decL xs = xs.set (xs.length - 1) (xs.getD (xs.length - 1) 0 - 1)
  | [x], _ => rfl
  | x :: y :: r, _ => by
    rw [decL, decL_set (y :: r) (by simp)]
    simp
/-- The column of a list of runs. -/
def vcol : Nat → List Int → Int × Int
  | _, [] => (1, 1)
  | i, x :: r => if i % 2 = 1 then ((vcol (i + 1) r).1, x * (vcol (i + 1) r).1 + (vcol (i + 1) r).2) else ((vcol (i + 1) r).1 + x * (vcol (i + 1) r).2, (vcol (i + 1) r).2)
/-- numbers at least 0 -/
structure Nn (m : Mat) : Prop where
  a : 0 ≤ m.a
  b : 0 ≤ m.b
  c : 0 ≤ m.c
  d : 0 ≤ m.d
  e : m.a * m.d - m.b * m.c = 1
theorem vcol_pos (xs : List Int) : ∀ i, okFrom i xs = true → 1 ≤ (vcol i xs).1 ∧ 1 ≤ (vcol i xs).2 := by
  induction xs with
  | nil => intro i _; simp [vcol]
  | cons x r ih =>
    intro i h
    simp only [okFrom, Bool.and_eq_true] at h
    obtain ⟨h1, h2⟩ := ih (i + 1) h.2
    have hx := (of_decide_eq_true h.1).1
    unfold vcol
    have e1 := Int.mul_nonneg hx (show 0 ≤ (vcol (i + 1) r).1 by omega)
    have e2 := Int.mul_nonneg hx (show 0 ≤ (vcol (i + 1) r).2 by omega)
    split <;> constructor <;> simp only [] <;> omega
theorem prod_vcol (B : Int) (hB : B ≤ 1000000000) (xs : List Int) : ∀ (i : Nat) (m : Mat), okFrom i xs = true → Nn m → m.a * (vcol i xs).1 + m.b * (vcol i xs).2 ≤ B → m.c * (vcol i xs).1 + m.d * (vcol i xs).2 ≤ B →
    ∃ r, prod m (runMats i xs) = some r ∧ Nn r ∧ r.a + r.b = m.a * (vcol i xs).1 + m.b * (vcol i xs).2 ∧ r.c + r.d = m.c * (vcol i xs).1 + m.d * (vcol i xs).2 := by
  induction xs with
  | nil => intro i m _ h _ _; exact ⟨m, rfl, h, by simp [vcol], by simp [vcol]⟩
  | cons x r ih =>
    intro i m ho hm h1 h2
    simp only [okFrom, Bool.and_eq_true] at ho
    obtain ⟨u1, u2⟩ := vcol_pos r (i + 1) ho.2
    have hx := (of_decide_eq_true ho.1).1
    obtain ⟨m0, m1, m2, m3, m4⟩ := hm
    rw [vcol] at h1 h2 ⊢
    rw [runMats]
    by_cases hi : i % 2 = 1
    · simp only [if_pos hi] at h1 h2 ⊢
      have e : m.mul ⟨1, 0, x, 1⟩ = ⟨m.a + m.b * x, m.b, m.c + m.d * x, m.d⟩ := by simp [Mat.mul]
      have g1 := Int.mul_nonneg m1 hx
      have g2 := Int.mul_nonneg m3 hx
      have hN : Nn ⟨m.a + m.b * x, m.b, m.c + m.d * x, m.d⟩ := ⟨by simp only; omega, m1, by simp only; omega, m3, by simp only; grind⟩
      have q1 : (m.a + m.b * x) * (vcol (i + 1) r).1 + m.b * (vcol (i + 1) r).2 = m.a * (vcol (i + 1) r).1 + m.b * (x * (vcol (i + 1) r).1 + (vcol (i + 1) r).2) := by grind
      have q2 : (m.c + m.d * x) * (vcol (i + 1) r).1 + m.d * (vcol (i + 1) r).2 = m.c * (vcol (i + 1) r).1 + m.d * (x * (vcol (i + 1) r).1 + (vcol (i + 1) r).2) := by grind
      have hk : (⟨m.a + m.b * x, m.b, m.c + m.d * x, m.d⟩ : Mat).ok = true := by
        refine (allW4 _ _ _ _).2 ?_
        have k1 : m.a + m.b * x ≤ (m.a + m.b * x) * (vcol (i + 1) r).1 := by have := Int.mul_le_mul_of_nonneg_left u1 (show 0 ≤ m.a + m.b * x by omega); omega
        have k2 : m.b ≤ m.b * (vcol (i + 1) r).2 := by have := Int.mul_le_mul_of_nonneg_left u2 m1; omega
        have k3 : m.c + m.d * x ≤ (m.c + m.d * x) * (vcol (i + 1) r).1 := by have := Int.mul_le_mul_of_nonneg_left u1 (show 0 ≤ m.c + m.d * x by omega); omega
        have k4 : m.d ≤ m.d * (vcol (i + 1) r).2 := by have := Int.mul_le_mul_of_nonneg_left u2 m3; omega
        unfold Ent
        simp only
        omega
      obtain ⟨z, z1, z2, z3, z4⟩ := ih (i + 1) _ ho.2 hN (by simp only; omega) (by simp only; omega)
      refine ⟨z, ?_, z2, by rw [z3]; simp only; omega, by rw [z4]; simp only; omega⟩
      rw [prod, e, hk]
      exact z1
    · simp only [if_neg hi] at h1 h2 ⊢
      have e : m.mul ⟨1, x, 0, 1⟩ = ⟨m.a, m.a * x + m.b, m.c, m.c * x + m.d⟩ := by simp [Mat.mul]
      have g1 := Int.mul_nonneg m0 hx
      have g2 := Int.mul_nonneg m2 hx
      have hN : Nn ⟨m.a, m.a * x + m.b, m.c, m.c * x + m.d⟩ := ⟨m0, by simp only; omega, m2, by simp only; omega, by simp only; grind⟩
      have q1 : m.a * (vcol (i + 1) r).1 + (m.a * x + m.b) * (vcol (i + 1) r).2 = m.a * ((vcol (i + 1) r).1 + x * (vcol (i + 1) r).2) + m.b * (vcol (i + 1) r).2 := by grind
      have q2 : m.c * (vcol (i + 1) r).1 + (m.c * x + m.d) * (vcol (i + 1) r).2 = m.c * ((vcol (i + 1) r).1 + x * (vcol (i + 1) r).2) + m.d * (vcol (i + 1) r).2 := by grind
      have hk : (⟨m.a, m.a * x + m.b, m.c, m.c * x + m.d⟩ : Mat).ok = true := by
        refine (allW4 _ _ _ _).2 ?_
        have k1 : m.a * x + m.b ≤ (m.a * x + m.b) * (vcol (i + 1) r).2 := by have := Int.mul_le_mul_of_nonneg_left u2 (show 0 ≤ m.a * x + m.b by omega); omega
        have k2 : m.a ≤ m.a * (vcol (i + 1) r).1 := by have := Int.mul_le_mul_of_nonneg_left u1 m0; omega
        have k3 : m.c * x + m.d ≤ (m.c * x + m.d) * (vcol (i + 1) r).2 := by have := Int.mul_le_mul_of_nonneg_left u2 (show 0 ≤ m.c * x + m.d by omega); omega
        have k4 : m.c ≤ m.c * (vcol (i + 1) r).1 := by have := Int.mul_le_mul_of_nonneg_left u1 m2; omega
        unfold Ent
        simp only
        omega
      obtain ⟨z, z1, z2, z3, z4⟩ := ih (i + 1) _ ho.2 hN (by simp only; omega) (by simp only; omega)
      refine ⟨z, ?_, z2, by rw [z3]; simp only; omega, by rw [z4]; simp only; omega⟩
      rw [prod, e, hk]
      exact z1
/-- The runs of a fraction lead to it, at either side; and they are runs. -/
theorem cf_runs : ∀ (f : Nat) (p q : Int), 0 < q → q.natAbs ≤ f → 0 < p → p ≤ 1000000000 → q ≤ 1000000000 → Int.gcd p q = 1 → ¬ (p = 1 ∧ q = 1) → ∀ i, (i = 0 ∨ q < p) →
    okFrom i (decL (cfL f p q)) = true ∧ vcol i (decL (cfL f p q)) = (if i % 2 = 1 then (q, p) else (p, q)) ∧ 0 < (cfL f p q).length := by
  intro f
  induction f with
  | zero => intro p q h0 hf; omega
  | succ f ih =>
    intro p q h0 hf hp hpb hqb hg hne i hi
    have e0 : cfL (f + 1) p q = p / q :: cfL f q (p - p / q * q) := by rw [cfL, if_neg (by omega), fl_pos h0]
    have em := Int.mul_ediv_add_emod p q
    rw [Int.mul_comm] at em
    have r1 := Int.emod_nonneg p (show q ≠ 0 by omega)
    have r2 := Int.emod_lt_of_pos p h0
    have er : p - p / q * q = p % q := by omega
    have en : 0 ≤ p / q := Int.ediv_nonneg (Int.le_of_lt hp) (by omega)
    have en2 : p / q ≤ p := Int.ediv_le_self _ (Int.le_of_lt hp)
    have hn1 : i = 0 ∨ p / q ≠ 0 := by
      rcases hi with h | h
      · exact .inl h
      · refine .inr fun hz => ?_
        rw [hz] at em; omega
    rw [er] at e0
    rw [e0]
    generalize hr : p % q = r at *
    generalize hn : p / q = n at *
    have hgr : Int.gcd q r = 1 := by
      have : p = q * n + r := by rw [Int.mul_comm]; omega
      rw [this, Int.gcd_comm] at hg
      simpa using hg
    rcases (show r = 0 ∨ 0 < r by omega) with h | h
    · subst h
      have hq1 : q = 1 := by rw [Int.gcd_zero_right] at hgr; omega
      subst hq1
      rw [cf_zero]
      have hp2 : n = p := by omega
      subst hp2
      refine ⟨?_, ?_, by simp⟩
      · simp only [decL, okFrom, Bool.and_true, okRun]
        refine decide_eq_true ⟨?_, by omega, ?_⟩ <;> omega
      · simp only [decL, vcol]
        split <;> simp <;> omega
    · obtain ⟨h1, h2, h3⟩ := ih q r h (by omega) (by omega) hqb (by omega) hgr (by omega) (i + 1) (.inr r2)
      obtain ⟨y, ys, hy⟩ : ∃ y ys, cfL f q r = y :: ys := by
        cases hc : cfL f q r with
        | nil => rw [hc] at h3; simp at h3
        | cons y ys => exact ⟨y, ys, rfl⟩
      rw [hy] at h1 h2 ⊢
      refine ⟨?_, ?_, by simp⟩
      · rw [decL, okFrom, h1, Bool.and_true]
        exact decide_eq_true ⟨by omega, by omega, hn1⟩
      · rw [decL, vcol, h2]
        by_cases h5 : i % 2 = 1
        · have h6 : ¬ (i + 1) % 2 = 1 := by omega
          simp only [if_pos h5, if_neg h6]
          rw [Prod.mk.injEq]; exact ⟨rfl, em⟩
        · have h6 : (i + 1) % 2 = 1 := by omega
          simp only [if_neg h5, if_pos h6]
          rw [Prod.mk.injEq]; exact ⟨by omega, rfl⟩
theorem cf_short : ∀ (k f : Nat) (p q : Int), 0 ≤ q → q < 2 ^ k → (cfL f p q).length ≤ 2 * k := by
  intro k
  induction k with
  | zero => intro f p q h0 h; have : q = 0 := by simp at h; omega
            rw [this, cf_zero]; simp
  | succ k ih =>
    intro f p q h0 h
    rcases (show q = 0 ∨ 0 < q by omega) with h1 | h1
    · rw [h1, cf_zero]; simp
    cases f with
    | zero => simp [cfL]
    | succ f =>
      rw [cfL, if_neg (by omega), fl_pos h1]
      have em := Int.mul_ediv_add_emod p q
      rw [Int.mul_comm] at em
      have r1 := Int.emod_nonneg p (show q ≠ 0 by omega)
      have r2 := Int.emod_lt_of_pos p h1
      rw [show p - p / q * q = p % q by omega]
      generalize p % q = r at *
      rcases (show r = 0 ∨ 0 < r by omega) with h2 | h2
      · rw [h2, cf_zero]; simp; omega
      cases f with
      | zero => simp [cfL]; omega
      | succ f =>
        rw [cfL, if_neg (by omega), fl_pos h2]
        have em' := Int.mul_ediv_add_emod q r
        rw [Int.mul_comm] at em'
        have s1 := Int.emod_nonneg q (show r ≠ 0 by omega)
        have s2 := Int.emod_lt_of_pos q h2
        rw [show q - q / r * r = q % r by omega]
        have hq1 : 1 ≤ q / r := by rw [Int.le_ediv_iff_mul_le h2]; omega
        have hm : r ≤ q / r * r := by have := Int.mul_le_mul_of_nonneg_right hq1 (show 0 ≤ r by omega); omega
        have hb : q % r < 2 ^ k := by rw [Int.pow_succ] at h; omega
        have := ih f r (q % r) s1 hb
        simp only [List.length_cons]
        omega
/-- Two matrices with numbers at least 0 and the same sums of columns are one. -/
theorem nn_unique {m n : Mat} (hm : Nn m) (hn : Nn n) (h1 : m.a + m.b = n.a + n.b) (h2 : m.c + m.d = n.c + n.d) : m = n := by
  obtain ⟨a0, b0, c0, d0, e0⟩ := hm
  obtain ⟨a1, b1, c1, d1, e1⟩ := hn
  obtain ⟨a, b, c, d⟩ := m
  obtain ⟨a', b', c', d'⟩ := n
  simp only at *
  -- d p - b q = 1 for both
  have k0 : d * (a + b) - b * (c + d) = 1 := by grind
  have k1 : d' * (a + b) - b' * (c + d) = 1 := by rw [h1, h2]; grind
  have k2 : (d - d') * (a + b) = (b - b') * (c + d) := by grind
  have hq : (c + d) ∣ (d - d') := by
    refine ⟨(d - d') * (d * a + d * b - b * (c + d)) / 1 * 0 + ((b - b') * d - (d - d') * b), ?_⟩
    have : (c + d) * ((b - b') * d - (d - d') * b) = (d - d') * (d * (a + b) - b * (c + d)) := by grind
    rw [k0] at this
    grind
  obtain ⟨t, ht⟩ := hq
  have hpos : 0 < c + d := by
    rcases Int.lt_or_le 0 (c + d) with h | h
    · exact h
    · have z1 : c = 0 := by omega
      have z2 : d = 0 := by omega
      subst z1 z2; simp at e0
  have hd' : d' ≤ c + d := by omega
  have t1 : t ≤ 1 := by
    rcases Int.lt_or_le t 2 with h | h
    · omega
    · have := Int.mul_le_mul_of_nonneg_left h (show 0 ≤ c + d by omega); omega
  have t2 : -1 ≤ t := by
    rcases Int.lt_or_le t (-1) with h | h
    · have := Int.mul_le_mul_of_nonneg_left (show t ≤ -2 by omega) (show 0 ≤ c + d by omega); omega
    · omega
  have hdd : d = d' := by
    rcases (show t = -1 ∨ t = 0 ∨ t = 1 by omega) with h | h | h
    · subst h
      have z1 : d = 0 := by omega
      subst z1
      have := Int.mul_nonneg b0 c0
      omega
    · subst h; omega
    · subst h
      have z1 : d' = 0 := by omega
      subst z1
      have := Int.mul_nonneg b1 c1
      omega
  have hbb : b = b' := by
    have : (b - b') * (c + d) = 0 := by rw [← k2, hdd]; simp
    rcases Int.mul_eq_zero.1 this with h | h
    · omega
    · omega
  subst hdd hbb
  have : a = a' := by omega
  have : c = c' := by omega
  subst_vars
  rfl
end Go.Proofs.YtpmifhjbngocmaaDoor

/- spec.l03Walk: contract. -/
namespace Go.Proofs.YtpmifhjbngocmaaDoor
open Go.ChangeShapes Go.WideShapes Go.ChangeAt Go.RowKit

/-- the matrix of a way, letter by letter -/
def wayM (m : Mat) (c : Int) : Mat := if c = 76 then ⟨m.a + m.b, m.b, m.c + m.d, m.d⟩ else ⟨m.a, m.a + m.b, m.c, m.c + m.d⟩
def wayL (done : List Int) : Mat := done.foldl wayM Mat.one
theorem wayL_snoc (done : List Int) (c : Int) : wayL (done ++ [c]) = wayM (wayL done) c := by simp [wayL]
/-- What holds at each step of the way to p/q: x and y tell how the place's columns make it. -/
structure Way (p q : Int) (m : Mat) (x y : Int) : Prop where
  n : Nn m
  x1 : 1 ≤ x
  y1 : 1 ≤ y
  pp : m.a * x + m.b * y = p
  qq : m.c * x + m.d * y = q
theorem Way.start {p q : Int} (hp : 1 ≤ p) (hq : 1 ≤ q) : Way p q Mat.one p q :=
  ⟨⟨by simp [Mat.one], by simp [Mat.one], by simp [Mat.one], by simp [Mat.one], by simp [Mat.one]⟩, hp, hq, by simp [Mat.one], by simp [Mat.one]⟩
theorem Way.left {p q : Int} {m : Mat} {x y : Int} (h : Way p q m x y) (hlt : x < y) : Way p q (wayM m 76) x (y - x) := by
  obtain ⟨⟨a0, b0, c0, d0, e0⟩, hx, hy, hp, hq⟩ := h
  exact ⟨⟨by simp [wayM]; omega, by simp [wayM]; omega, by simp [wayM]; omega, by simp [wayM]; omega, by simp [wayM]; grind⟩, hx, by omega, by simp [wayM]; grind, by simp [wayM]; grind⟩
theorem Way.right {p q : Int} {m : Mat} {x y : Int} (h : Way p q m x y) (hlt : y < x) : Way p q (wayM m 82) (x - y) y := by
  obtain ⟨⟨a0, b0, c0, d0, e0⟩, hx, hy, hp, hq⟩ := h
  exact ⟨⟨by simp [wayM]; omega, by simp [wayM]; omega, by simp [wayM]; omega, by simp [wayM]; omega, by simp [wayM]; grind⟩, by omega, hy, by simp [wayM]; grind, by simp [wayM]; grind⟩
theorem Way.bounds {p q : Int} {m : Mat} {x y : Int} (h : Way p q m x y) : m.a + m.b ≤ p ∧ m.c + m.d ≤ q ∧ 0 < m.a + m.b ∧ 0 < m.c + m.d := by
  obtain ⟨⟨a0, b0, c0, d0, e0⟩, hx, hy, hp, hq⟩ := h
  have e1 := Int.mul_le_mul_of_nonneg_left hx a0
  have e2 := Int.mul_le_mul_of_nonneg_left hy b0
  have e3 := Int.mul_le_mul_of_nonneg_left hx c0
  have e4 := Int.mul_le_mul_of_nonneg_left hy d0
  refine ⟨by omega, by omega, ?_, ?_⟩
  · rcases Int.lt_or_le 0 (m.a + m.b) with h | h
    · exact h
    · have z1 : m.a = 0 := by omega
      have z2 : m.b = 0 := by omega
      rw [z1, z2] at e0; simp at e0
  · rcases Int.lt_or_le 0 (m.c + m.d) with h | h
    · exact h
    · have z1 : m.c = 0 := by omega
      have z2 : m.d = 0 := by omega
      rw [z1, z2] at e0; simp at e0
theorem Way.unit {p q : Int} {m : Mat} {x y : Int} (h : Way p q m x y) (hg : Int.gcd p q = 1) (he : x = y) : x = 1 := by
  obtain ⟨_, hx, hy, hp, hq⟩ := h
  subst he
  have h1 : x ∣ p := ⟨m.a + m.b, by rw [← hp]; grind⟩
  have h2 : x ∣ q := ⟨m.c + m.d, by rw [← hq]; grind⟩
  have h3 := Int.dvd_coe_gcd h1 h2
  rw [hg] at h3
  have h4 : x ∣ 1 := by simpa using h3
  exact Int.eq_one_of_dvd_one (by omega) h4
theorem Way.eqB {p q : Int} {m : Mat} {x y : Int} (h : Way p q m x y) (hg : Int.gcd p q = 1) : decide (m.a + m.b = p ∧ m.c + m.d = q) = decide (x = y) := by
  rcases Decidable.em (x = y) with he | he
  · have h1 := h.unit hg he
    have h2 : y = 1 := by omega
    have hp := h.pp
    have hq := h.qq
    rw [h1, h2] at hp hq
    rw [decide_eq_true he, decide_eq_true]
    constructor <;> omega
  · rw [decide_eq_false he, decide_eq_false]
    rintro ⟨h1, h2⟩
    obtain ⟨⟨a0, b0, c0, d0, e0⟩, hx, hy, hp, hq⟩ := h
    have k1 : m.d * p - m.b * q = x := by
      have : m.d * (m.a * x + m.b * y) - m.b * (m.c * x + m.d * y) = (m.a * m.d - m.b * m.c) * x := by grind
      rw [← hp, ← hq, this, e0]; omega
    have k2 : m.a * q - m.c * p = y := by
      have : m.a * (m.c * x + m.d * y) - m.c * (m.a * x + m.b * y) = (m.a * m.d - m.b * m.c) * y := by grind
      rw [← hp, ← hq, this, e0]; omega
    rw [← h1, ← h2] at k1 k2
    have k3 : m.d * (m.a + m.b) - m.b * (m.c + m.d) = m.a * m.d - m.b * m.c := by grind
    have k4 : m.a * (m.c + m.d) - m.c * (m.a + m.b) = m.a * m.d - m.b * m.c := by grind
    omega
theorem Way.lessB {p q : Int} {m : Mat} {x y : Int} (h : Way p q m x y) (h1 : 1 ≤ q) : less p q (m.a + m.b) (m.c + m.d) = decide (x < y) := by
  obtain ⟨_, _, _, hd⟩ := h.bounds
  obtain ⟨⟨a0, b0, c0, d0, e0⟩, hx, hy, hp, hq⟩ := h
  unfold less
  rw [if_neg (by omega)]
  have : p * (m.c + m.d) - (m.a + m.b) * q = x - y := by
    have : p * (m.c + m.d) - (m.a + m.b) * q = (m.a * m.d - m.b * m.c) * (x - y) := by rw [← hp, ← hq]; grind
    rw [this, e0]; omega
  by_cases hl : x < y
  · rw [decide_eq_true hl, decide_eq_true]; omega
  · rw [decide_eq_false hl, decide_eq_false]; omega
theorem nn_low {m : Mat} (h : Nn m) (ha : m.a + m.b ≤ 1000000000) (hc : m.c + m.d ≤ 1000000000) (hq : 0 < m.c + m.d) :
    lowP (m.a + m.b) (m.c + m.d) = m.a + m.b ∧ lowQ (m.a + m.b) (m.c + m.d) = m.c + m.d ∧ Mid (m.a + m.b) ∧ Mid (m.c + m.d) ∧ ¬ (m.a + m.b = 0 ∧ m.c + m.d = 0) := by
  obtain ⟨a0, b0, c0, d0, det⟩ := h
  have m1 : Mid (m.a + m.b) := by unfold Mid; omega
  have m2 : Mid (m.c + m.d) := by unfold Mid; omega
  have hne : ¬ (m.a + m.b = 0 ∧ m.c + m.d = 0) := by omega
  have hg : Int.gcd (m.a + m.b) (m.c + m.d) = 1 := by
    obtain ⟨x, hx⟩ := Int.gcd_dvd_left (m.a + m.b) (m.c + m.d)
    obtain ⟨y, hy⟩ := Int.gcd_dvd_right (m.a + m.b) (m.c + m.d)
    have hd : ((Int.gcd (m.a + m.b) (m.c + m.d) : Nat) : Int) ∣ 1 := by
      refine ⟨m.d * x - m.b * y, ?_⟩
      generalize ((Int.gcd (m.a + m.b) (m.c + m.d) : Nat) : Int) = g at hx hy
      have : g * (m.d * x - m.b * y) = m.d * (g * x) - m.b * (g * y) := by grind
      rw [this, ← hx, ← hy]
      grind
    have := Int.eq_one_of_dvd_one (by omega) hd
    omega
  obtain ⟨l1, l2⟩ := (low_iff hne m1 m2).2 ⟨hg, by omega, .inl hq⟩
  exact ⟨l1, l2, m1, m2, hne⟩

theorem GrB.made (w : World) (L : Nat) (hL : L ≤ w.heap.size) : GrB (w.alloc (.cells #[] 5)) L (.slice (some ⟨w.heap.size, 0, none⟩) 0 0) [] :=
  World.ownsRow_made w #[] 0 hL (by unfold maxLen; omega) (by simp)
theorem GrB.madeAt {w : World} {L g : Nat} (hg : w.heap.size = g) (hL : L ≤ g) : GrB (w.alloc (.cells #[] 5)) L (.slice (some ⟨g, 0, none⟩) 0 0) [] := hg ▸ GrB.made w L (hg ▸ hL)
def capOf : Value → Nat
  | .slice _ _ c => c
  | _ => 0
theorem GrB.far {w : World} {L : Nat} {v : Value} {xs : List Int} (h : GrB w L v xs) {p : Addr} (hp : ∀ g, v.ownBlock = some g → g ≠ p.block) (u : Value) : GrB (w.setCell p u) L v xs := by
  refine World.ownsRow.kept (row := some p.block) h ⟨rfl, rfl, rfl, by simp [World.setCell], fun k _ hk => Below.heap_setCell w p u k (fun e => hk (by rw [e]))⟩ ?_
  rcases e : v.ownBlock with _ | k
  · exact .inl rfl
  · exact .inr (fun e' => hp k e (by injection e'))
theorem GrB.apart {w : World} {L b : Nat} {v : Value} {xs : List Int} {x : Int} {r : List Value} (h : GrB w L v xs) (h0 : xs = [] → capOf v = 0) (hB : Box w b ((.int .i64 x) :: r)) : ∀ g, v.ownBlock = some g → g ≠ b := by
  intro g hg e
  subst e
  obtain ⟨hl, ⟨rfl, h1⟩ | ⟨g', cap, cur, rfl, hg', hh, hn, _, hsz, ht⟩⟩ := h
  · simp [Value.ownBlock] at hg
  · have e : g' = g := by simpa [Value.ownBlock] using hg
    subst e
    have hc := (hB.2 0 _ rfl).1
    simp only [World.cell?, hh] at hc
    have hc' : cur[0]? = some (.int .i64 x) := by simpa using hc
    cases xs with
    | nil =>
      have : cap = 0 := h0 rfl
      subst this
      have hz : cur.size = 0 := by omega
      rw [Array.getElem?_eq_none (by omega)] at hc'
      cases hc'
    | cons y ys =>
      have h1 : (cur.toList.take ((y :: ys).length * 1))[0]? = ((y :: ys).map fun x => Value.int .u8 x)[0]? := by rw [ht]
      rw [List.getElem?_take_of_lt (by simp), Array.getElem?_toList, hc'] at h1
      simp at h1
theorem Box.far2 {w : World} {g b : Nat} {xs : List Value} (h : Box w g xs) (hne : g ≠ b) (u v : Value) : Box ((w.setCell ⟨b, 0, none⟩ u).setCell ⟨b, 1, none⟩ v) g xs := (h.far hne u).far hne v
theorem GrB.far2 {w : World} {L b : Nat} {v : Value} {xs : List Int} (h : GrB w L v xs) (hp : ∀ g, v.ownBlock = some g → g ≠ b) (u u2 : Value) : GrB ((w.setCell ⟨b, 0, none⟩ u).setCell ⟨b, 1, none⟩ u2) L v xs := (h.far hp u).far hp u2
theorem cap_some {done : List Int} {y : Int} {v : Value} : done ++ [y] = [] → capOf v = 0 := fun h => by simp at h
/-- What the walk keeps between two steps. -/
def WB (w wr : World) (p q : Int) (v : Value) (done : List Int) (m : Mat) : Prop :=
  Below w.heap.size w wr ∧ (GrB wr (w.heap.size + 1) v done ∧ (done = [] → capOf v = 0)) ∧ Box wr w.heap.size [.int .i64 p, .int .i64 q] ∧ Box wr (w.heap.size + 1) [.int .i64 0, .int .i64 0] ∧ Box wr (w.heap.size + 1 + 1) [.int .i64 0, .int .i64 0] ∧
    Box wr (w.heap.size + 1 + 1 + 1 + 1) [.int .i64 m.b, .int .i64 m.d] ∧ Box wr (w.heap.size + 1 + 1 + 1 + 1 + 1) [.int .i64 m.a, .int .i64 m.c]
theorem WB.below {w wr w2 : World} {p q : Int} {v : Value} {done : List Int} {m : Mat} (h : WB w wr p q v done m) (hb : Below wr.heap.size wr w2) : WB w w2 p q v done m := by
  obtain ⟨T, G, B0, B1, B2, B4, B5⟩ := h
  exact ⟨own_trans T hb, ⟨G.1.own hb, G.2⟩, B0.below hb, B1.below hb, B2.below hb, B4.below hb, B5.below hb⟩
set_option maxRecDepth 100000 in
set_option maxHeartbeats 8000000 in
theorem specWalk_any (p q : Int) (hp : 1 ≤ p) (hp' : p ≤ 10000) (hq : 1 ≤ q) (hq' : q ≤ 10000) (hg : Int.gcd p q = 1) (w : World) :
    Calls Tryd.prog 34 #[(.agg #[.int .i64 p, .int .i64 q])] w fun e w' => ∃ (m : Mat) (v : Value) (done : List Int), e = .returned (.tuple #[(.agg #[.int .i64 m.b, .int .i64 m.d]), (.agg #[.int .i64 m.a, .int .i64 m.c]), v]) ∧ Hid (Nn m ∧ m.a + m.b = p ∧ m.c + m.d = q ∧ wayL done = m ∧ (done.length : Int) + 2 ≤ p + q) ∧
      GrB w' (w.heap.size + 1) v done ∧ Below w.heap.size w w' := by
  have HG := Lib.hid hg
  have n45 : w.heap.size + 1 + 1 + 1 + 1 ≠ w.heap.size + 1 + 1 + 1 + 1 + 1 := by omega
  have n54 : w.heap.size + 1 + 1 + 1 + 1 + 1 ≠ w.heap.size + 1 + 1 + 1 + 1 := by omega
  have n04 : w.heap.size ≠ w.heap.size + 1 + 1 + 1 + 1 := by omega
  have n05 : w.heap.size ≠ w.heap.size + 1 + 1 + 1 + 1 + 1 := by omega
  have n14 : w.heap.size + 1 ≠ w.heap.size + 1 + 1 + 1 + 1 := by omega
  have n15 : w.heap.size + 1 ≠ w.heap.size + 1 + 1 + 1 + 1 + 1 := by omega
  have n24 : w.heap.size + 1 + 1 ≠ w.heap.size + 1 + 1 + 1 + 1 := by omega
  have n25 : w.heap.size + 1 + 1 ≠ w.heap.size + 1 + 1 + 1 + 1 + 1 := by omega
  have n12 : w.heap.size + 1 ≠ w.heap.size + 1 + 1 := by omega
  have n21 : w.heap.size + 1 + 1 ≠ w.heap.size + 1 := by omega
  clear hg
  go_enter Tryd.func34, Tryd.ntmps34
  go_wp2
  go_loopw [7] (fun v wr => ∃ (done : List Int) (m : Mat) (x y : Int), Hid (Way p q m x y) ∧ Hid (wayL done = m) ∧ (done.length : Int) + x + y ≤ p + q ∧ WB w wr p q v done m) (fun v _ => (p + q).toNat - lenOf v)
  case atStart =>
    refine ⟨[], Mat.one, p, q, Lib.hid (Way.start hp hq), Lib.hid rfl, by simp, by repeat (first | with_reducible exact own_refl _ | with_reducible assumption | with_reducible apply own_alloc | with_reducible apply own_drewN | with_reducible apply own_drew | ((with_reducible refine own_setCell ?_ ?_ _); rotate_left; focus (first | (simp; done) | (simp; omega))) | (with_reducible (refine own_trans ?_ (by assumption)))), ?_, ?_, ?_, ?_, ?_, ?_⟩
    · exact ⟨GrB.alloc (GrB.alloc (GrB.madeAt (by simp) (by omega)) _) _, fun _ => rfl⟩
    case refine_5 => show Box _ (w.heap.size + 1 + 1 + 1 + 1) [.int .i64 0, .int .i64 1]; repeat (first | with_reducible assumption | with_reducible exact Box.new _ _ _ | (with_reducible refine Box.newAt ?_ _ _; (simp; done)) | with_reducible apply Box.alloc | with_reducible apply Box.drewN | with_reducible apply Box.drew)
    case refine_6 => show Box _ (w.heap.size + 1 + 1 + 1 + 1 + 1) [.int .i64 1, .int .i64 0]; repeat (first | with_reducible assumption | with_reducible exact Box.new _ _ _ | (with_reducible refine Box.newAt ?_ _ _; (simp; done)) | with_reducible apply Box.alloc | with_reducible apply Box.drewN | with_reducible apply Box.drew)
    all_goals repeat (first | with_reducible assumption | with_reducible exact Box.new _ _ _ | (with_reducible refine Box.newAt ?_ _ _; (simp; done)) | with_reducible apply Box.alloc | with_reducible apply Box.drewN | with_reducible apply Box.drew)
  case round =>
    obtain ⟨done, m, x, y, HW, HL, hlen, HB⟩ := hrel
    have HN := Lib.hid hlen
    have HBD := Lib.hid HW.out.bounds
    have HXY := Lib.hid (show 1 ≤ x ∧ 1 ≤ y from ⟨HW.out.x1, HW.out.y1⟩)
    have HLO := Lib.hid (nn_low HW.out.n (by have := HBD.out; omega) (by have := HBD.out; omega) HBD.out.2.2.2)
    have HQE := HW.out.eqB HG.out
    have HLE := HW.out.lessB hq
    obtain ⟨X, hX⟩ : ∃ X, m.a + m.b = X := ⟨_, rfl⟩
    obtain ⟨Y, hY⟩ : ∃ Y, m.c + m.d = Y := ⟨_, rfl⟩
    have HX := Lib.hid hX
    have HY := Lib.hid hY
    have hB2 := HB
    obtain ⟨T, G, B0, B1, B2, B4, B5⟩ := hB2
    obtain ⟨ad, cap, hv⟩ := G.1.shape
    subst hv
    obtain ⟨_, _, _, _, _⟩ := B4.two
    obtain ⟨_, _, _, _, _⟩ := B5.two
    rw [hX, hY] at HQE
    rw [hX, hY] at HLE
    have hXB : X ≤ p ∧ Y ≤ q ∧ 0 < X ∧ 0 < Y := by rw [← hX, ← hY]; exact HBD.out
    obtain ⟨_, _, _, _⟩ := hXB
    have heq : ∀ w, (Op.equalIn 10000 31 (.agg #[.int .i64 X, .int .i64 Y]) (.agg #[.int .i64 p, .int .i64 q])).run Tryd.prog w = .ok (decide (x = y)) w := fun w => eq_fr_is _ X Y p q HQE w
    clear hX hY HQE T G B0 B1 B2 B4 B5 hlen
    go_wp2_with fail
    refine (medL_to m.b m.d m.a m.c X Y (by rw [← HX.out]; omega) (by rw [← HY.out]; omega) (by rw [← HX.out, ← HY.out]; exact HLO.out.1) (by rw [← HX.out, ← HY.out]; exact HLO.out.2.1) (by rw [← HX.out]; exact HLO.out.2.2.1) (by rw [← HY.out]; exact HLO.out.2.2.2.1) (by rw [← HX.out, ← HY.out]; exact HLO.out.2.2.2.2) _).mono ?_
    rintro e w1 ⟨rfl, hb1⟩
    have HB1 := HB.below hb1
    clear HB hb1
    have HB2 := HB1.below (own_alloc (own_refl w1) (.cells #[.int .i64 X, .int .i64 Y] 31))
    have B8 : Box (w1.alloc (.cells #[.int .i64 X, .int .i64 Y] 31)) w1.heap.size [.int .i64 X, .int .i64 Y] := Box.new _ _ _
    have hw8 : w.heap.size + 1 + 1 + 1 + 1 + 1 < w1.heap.size := HB1.2.2.2.2.2.2.1
    have hB2 := HB2
    obtain ⟨T2, G2, C0, C1, C2, C4, C5⟩ := hB2
    obtain ⟨_, _, _, _, _⟩ := C0.two
    obtain ⟨_, _, _, _, _⟩ := B8.two
    obtain ⟨_, _, _, _, _⟩ := C4.two
    obtain ⟨_, _, _, _, _⟩ := C5.two
    have hsz : done.length ≤ 100000 := by have := HN.out; have := HXY.out; omega
    rcases Int.lt_trichotomy x y with hxy | hxy | hxy
    · have heq' : ∀ w, (Op.equalIn 10000 31 (.agg #[.int .i64 X, .int .i64 Y]) (.agg #[.int .i64 p, .int .i64 q])).run Tryd.prog w = .ok false w := fun w => by rw [heq w, decide_eq_false (by omega)]
      rw [decide_eq_true hxy] at HLE
      have HXL := Lib.hid hxy
      clear heq hxy T2 G2 C0 C1 C2 C4 C5
      go_wp2_with fail
      refine (less_is true p q X Y (by unfold Ent; omega) (by unfold Ent; omega) (by unfold Ent; omega) (by unfold Ent; omega) (by omega) (by omega) HLE _).mono ?_
      rintro e w3 ⟨rfl, hb3⟩
      have HB3 := HB2.below hb3
      have B83 := B8.below hb3
      clear HB2 B8 hb3 heq' HLE
      obtain ⟨T3, G3, C0, C1, C2, C4, C5⟩ := HB3
      obtain ⟨_, _, _, _, _⟩ := B83.two
      obtain ⟨_, _, _, _, _⟩ := C5.two
      go_wp2_with (at_builtin; refine app8 rfl _ _ rfl (w.heap.size + 1) ((w3.setCell ⟨w.heap.size + 1 + 1 + 1 + 1 + 1, 0, none⟩ (.int .i64 X)).setCell ⟨w.heap.size + 1 + 1 + 1 + 1 + 1, 1, none⟩ (.int .i64 Y)) (.slice ad done.length cap) done 76 rfl (G3.1.far2 (G3.1.apart G3.2 C5) _ _) w3.heap.size rfl (by simp) (by omega) (by simp; omega) ?_; intro v' w6 hG6 hb6 hk6)
      have T6 : Below w.heap.size w w6 := (show Below w.heap.size w ((w3.setCell ⟨w.heap.size + 1 + 1 + 1 + 1 + 1, 0, none⟩ (.int .i64 X)).setCell ⟨w.heap.size + 1 + 1 + 1 + 1 + 1, 1, none⟩ (.int .i64 Y)) by repeat (first | with_reducible exact own_refl _ | with_reducible assumption | with_reducible apply own_alloc | with_reducible apply own_drewN | with_reducible apply own_drew | ((with_reducible refine own_setCell ?_ ?_ _); rotate_left; focus (first | (simp; done) | (simp; omega))) | (with_reducible (refine own_trans ?_ (by assumption))))).trans (hb6.mono (Nat.le_succ _))
      have K0 := hk6 _ _ (G3.1.apart G3.2 C0) (C0.far2 (b := w.heap.size + 1 + 1 + 1 + 1 + 1) (by omega) (.int .i64 X) (.int .i64 Y))
      have K1 := hk6 _ _ (G3.1.apart G3.2 C1) (C1.far2 (b := w.heap.size + 1 + 1 + 1 + 1 + 1) (by omega) (.int .i64 X) (.int .i64 Y))
      have K2 := hk6 _ _ (G3.1.apart G3.2 C2) (C2.far2 (b := w.heap.size + 1 + 1 + 1 + 1 + 1) (by omega) (.int .i64 X) (.int .i64 Y))
      have K4 := hk6 _ _ (G3.1.apart G3.2 C4) (C4.far2 (b := w.heap.size + 1 + 1 + 1 + 1 + 1) (by omega) (.int .i64 X) (.int .i64 Y))
      have K5 := hk6 _ _ (G3.1.apart G3.2 C5) (C5.put2 (.int .i64 X) (.int .i64 Y))
      go_roundw
      case rel =>
        refine ⟨done ++ [76], wayM m 76, x, y - x, Lib.hid (HW.out.left HXL.out), Lib.hid (by rw [wayL_snoc, HL.out]), by have := HN.out; have := HXL.out; have := HXY.out; simp; omega, T6, ⟨hG6, cap_some⟩, K0, K1, K2, ?_, ?_⟩
        · simpa [wayM, HX.out, HY.out] using K4
        · simpa [wayM, HX.out, HY.out] using K5
      case measure => rw [hG6.len]; have := HN.out; have := HXY.out; simp [lenOf]; omega
    · have heq' : ∀ w, (Op.equalIn 10000 31 (.agg #[.int .i64 X, .int .i64 Y]) (.agg #[.int .i64 p, .int .i64 q])).run Tryd.prog w = .ok true w := fun w => by rw [heq w, decide_eq_true hxy]
      have HXL := Lib.hid hxy
      clear heq hxy HLE
      obtain ⟨_, _, _, _, _⟩ := C1.two
      obtain ⟨_, _, _, _, _⟩ := C2.two
      have HF := Lib.hid (show Nn m ∧ m.a + m.b = p ∧ m.c + m.d = q ∧ wayL done = m ∧ (done.length : Int) + 2 ≤ p + q by
        have h1 := HW.out.unit HG.out HXL.out
        have h2 : y = 1 := by have := HXL.out; omega
        have e1 := HW.out.pp
        have e2 := HW.out.qq
        rw [h1, h2] at e1 e2
        exact ⟨HW.out.n, by omega, by omega, HL.out, by have := HN.out; omega⟩)
      have RA1 := (C1.put2 (.int .i64 m.b) (.int .i64 m.d)).far2 (b := w.heap.size + 1 + 1) (by omega) (.int .i64 m.a) (.int .i64 m.c)
      have RA2 := (C2.far2 (b := w.heap.size + 1) (by omega) (.int .i64 m.b) (.int .i64 m.d)).put2 (.int .i64 m.a) (.int .i64 m.c)
      have RB1 := (C1.far2 (b := w.heap.size + 1 + 1) (by omega) (.int .i64 m.a) (.int .i64 m.c)).put2 (.int .i64 m.b) (.int .i64 m.d)
      have RB2 := (C2.put2 (.int .i64 m.a) (.int .i64 m.c)).far2 (b := w.heap.size + 1) (by omega) (.int .i64 m.b) (.int .i64 m.d)
      have GA := (G2.1.far2 (G2.1.apart G2.2 C1) (.int .i64 m.b) (.int .i64 m.d)).far2 (G2.1.apart G2.2 C2) (.int .i64 m.a) (.int .i64 m.c)
      have GB := (G2.1.far2 (G2.1.apart G2.2 C2) (.int .i64 m.a) (.int .i64 m.c)).far2 (G2.1.apart G2.2 C1) (.int .i64 m.b) (.int .i64 m.d)
      obtain ⟨_, ra0, ra1, _, _⟩ := RA1.two
      obtain ⟨_, ra2, ra3, _, _⟩ := RA2.two
      obtain ⟨_, rb0, rb1, _, _⟩ := RB1.two
      obtain ⟨_, rb2, rb3, _, _⟩ := RB2.two
      have RALL := Lib.hid (And.intro (And.intro ra0 ra1) (And.intro ra2 ra3))
      have RBLL := Lib.hid (And.intro (And.intro rb0 rb1) (And.intro rb2 rb3))
      clear ra0 ra1 ra2 ra3 rb0 rb1 rb2 rb3 RA1 RA2 RB1 RB2
      go_upto_region 4 with fail
      go_region
      all_goals
        go_wp2
        first
          | exact bodyPost_ret (v := .tuple #[(.agg #[.int .i64 m.b, .int .i64 m.d]), (.agg #[.int .i64 m.a, .int .i64 m.c]), .slice ad done.length cap]) (by simp [results, Tryd.results34, go_sem, RALL.out.1.1, RALL.out.1.2, RALL.out.2.1, RALL.out.2.2]) rfl ⟨m, _, done, rfl, HF, GA, by repeat (first | with_reducible exact own_refl _ | with_reducible assumption | with_reducible apply own_alloc | with_reducible apply own_drewN | with_reducible apply own_drew | ((with_reducible refine own_setCell ?_ ?_ _); rotate_left; focus (first | (simp; done) | (simp; omega))) | (with_reducible (refine own_trans ?_ (by assumption))))⟩
          | exact bodyPost_ret (v := .tuple #[(.agg #[.int .i64 m.b, .int .i64 m.d]), (.agg #[.int .i64 m.a, .int .i64 m.c]), .slice ad done.length cap]) (by simp [results, Tryd.results34, go_sem, RBLL.out.1.1, RBLL.out.1.2, RBLL.out.2.1, RBLL.out.2.2]) rfl ⟨m, _, done, rfl, HF, GB, by repeat (first | with_reducible exact own_refl _ | with_reducible assumption | with_reducible apply own_alloc | with_reducible apply own_drewN | with_reducible apply own_drew | ((with_reducible refine own_setCell ?_ ?_ _); rotate_left; focus (first | (simp; done) | (simp; omega))) | (with_reducible (refine own_trans ?_ (by assumption))))⟩
    · have heq' : ∀ w, (Op.equalIn 10000 31 (.agg #[.int .i64 X, .int .i64 Y]) (.agg #[.int .i64 p, .int .i64 q])).run Tryd.prog w = .ok false w := fun w => by rw [heq w, decide_eq_false (by omega)]
      rw [decide_eq_false (show ¬ x < y by omega)] at HLE
      have HXL := Lib.hid hxy
      clear heq hxy T2 G2 C0 C1 C2 C4 C5
      go_wp2_with fail
      refine (less_is false p q X Y (by unfold Ent; omega) (by unfold Ent; omega) (by unfold Ent; omega) (by unfold Ent; omega) (by omega) (by omega) HLE _).mono ?_
      rintro e w3 ⟨rfl, hb3⟩
      have HB3 := HB2.below hb3
      have B83 := B8.below hb3
      clear HB2 B8 hb3 heq' HLE
      obtain ⟨T3, G3, C0, C1, C2, C4, C5⟩ := HB3
      obtain ⟨_, _, _, _, _⟩ := B83.two
      obtain ⟨_, _, _, _, _⟩ := C4.two
      go_wp2_with (at_builtin; refine app8 rfl _ _ rfl (w.heap.size + 1) ((w3.setCell ⟨w.heap.size + 1 + 1 + 1 + 1, 0, none⟩ (.int .i64 X)).setCell ⟨w.heap.size + 1 + 1 + 1 + 1, 1, none⟩ (.int .i64 Y)) (.slice ad done.length cap) done 82 rfl (G3.1.far2 (G3.1.apart G3.2 C4) _ _) w3.heap.size rfl (by simp) (by omega) (by simp; omega) ?_; intro v' w6 hG6 hb6 hk6)
      have T6 : Below w.heap.size w w6 := (show Below w.heap.size w ((w3.setCell ⟨w.heap.size + 1 + 1 + 1 + 1, 0, none⟩ (.int .i64 X)).setCell ⟨w.heap.size + 1 + 1 + 1 + 1, 1, none⟩ (.int .i64 Y)) by repeat (first | with_reducible exact own_refl _ | with_reducible assumption | with_reducible apply own_alloc | with_reducible apply own_drewN | with_reducible apply own_drew | ((with_reducible refine own_setCell ?_ ?_ _); rotate_left; focus (first | (simp; done) | (simp; omega))) | (with_reducible (refine own_trans ?_ (by assumption))))).trans (hb6.mono (Nat.le_succ _))
      have K0 := hk6 _ _ (G3.1.apart G3.2 C0) (C0.far2 (b := w.heap.size + 1 + 1 + 1 + 1) (by omega) (.int .i64 X) (.int .i64 Y))
      have K1 := hk6 _ _ (G3.1.apart G3.2 C1) (C1.far2 (b := w.heap.size + 1 + 1 + 1 + 1) (by omega) (.int .i64 X) (.int .i64 Y))
      have K2 := hk6 _ _ (G3.1.apart G3.2 C2) (C2.far2 (b := w.heap.size + 1 + 1 + 1 + 1) (by omega) (.int .i64 X) (.int .i64 Y))
      have K4 := hk6 _ _ (G3.1.apart G3.2 C4) (C4.put2 (.int .i64 X) (.int .i64 Y))
      have K5 := hk6 _ _ (G3.1.apart G3.2 C5) (C5.far2 (b := w.heap.size + 1 + 1 + 1 + 1) (by omega) (.int .i64 X) (.int .i64 Y))
      go_roundw
      case rel =>
        refine ⟨done ++ [82], wayM m 82, x - y, y, Lib.hid (HW.out.right HXL.out), Lib.hid (by rw [wayL_snoc, HL.out]), by have := HN.out; have := HXL.out; have := HXY.out; simp; omega, T6, ⟨hG6, cap_some⟩, K0, K1, K2, ?_, ?_⟩
        · simpa [wayM, HX.out, HY.out] using K4
        · simpa [wayM, HX.out, HY.out] using K5
      case measure => rw [hG6.len]; have := HN.out; have := HXY.out; simp [lenOf]; omega
end Go.Proofs.YtpmifhjbngocmaaDoor

/- runsOfPath and ParentsOf: contracts. -/
namespace Go.Proofs.YtpmifhjbngocmaaDoor
open Go.ChangeShapes Go.WideShapes Go.ChangeAt Go.RowKit

theorem allWF_is (r : Bool) (a b : Int) (g : Nat) (w : World) (hr : allW [a, b] 10000 = r)
    (h0 : w.cell? ⟨g, 0, none⟩ = some (.int .i64 a)) (h1 : w.cell? ⟨g, 1, none⟩ = some (.int .i64 b)) :
    Calls Tryd.prog 67 #[.slice (some ⟨g, 0, none⟩) 2 2, (.int .i64 10000)] w fun e w' => e = .returned (.bool r) ∧ w = w' := by
  subst hr
  refine allWithin_any [a, b] 10000 (by omega) (by omega) g 0 2 (by simp) w ?_
  intro k hk
  match k, hk with
  | 0, _ => simpa using h0
  | 1, _ => simpa using h1
theorem Sl.put {w : World} {L U g : Nat} {v : Value} {xs : List Int} (h : Sl w L U v xs) (k : Nat) (hk : k < xs.length) (y : Int) {off : Nat} {n cap : Nat} (hv : v = .slice (some ⟨g, off, none⟩) n cap) :
    Sl (w.setCell ⟨g, off + k, none⟩ (.int .i64 y)) L U v (xs.set k y) := by
  obtain ⟨hu, a, cap', e, hc⟩ := h
  subst hv
  injection e with e1 e2 e3
  subst e1 e2 e3
  refine ⟨by simpa [World.setCell] using hu, _, _, by rw [List.length_set], fun h0 => ?_⟩
  obtain ⟨g', off', e, hg, hg', hr⟩ := hc (by omega)
  injection e with e
  injection e with e4 e5
  subst e4 e5
  refine ⟨_, _, rfl, hg, hg', fun j hj => ⟨?_, (World.frozen?_setCell _ _ _ _).trans (hr j (by simpa using hj)).2⟩⟩
  have hj' : j < xs.length := by simpa using hj
  by_cases e : j = k
  · subst e
    rw [World.cell?_setCell_same _ _ _ (hr j hj').1]
    simp [List.getD, hk]
  · rw [World.cell?_setCell_other _ _ _ _ (by intro he; injection he with h1 h2; omega), (hr j hj').1]
    simp [List.getD, List.getElem?_set_ne (Ne.symm e)]
theorem Sl.upto {w : World} {L U U' : Nat} {v : Value} {xs : List Int} (h : Sl w L U v xs) (h1 : U ≤ U') (h2 : U' ≤ w.heap.size) : Sl w L U' v xs := by
  obtain ⟨hu, a, cap, e, hc⟩ := h
  refine ⟨h2, a, cap, e, fun h0 => ?_⟩
  obtain ⟨g, off, e, hg, hg', r⟩ := hc h0
  exact ⟨g, off, e, hg, Nat.lt_of_lt_of_le hg' h1, r⟩
theorem implCf_is (xs : List Int) (p q : Int) (hx : cfL q.natAbs p q = xs) (hp : Ent p) (hq : Ent q) (h0 : 0 < q) (w : World) :
    Calls Tryd.prog 68 #[(.agg #[.int .i64 p, .int .i64 q])] w fun e w' => ∃ v, e = .returned v ∧ Gr w' (w.heap.size + 1) v xs ∧ Below w.heap.size w w' := hx ▸ implCf_any q.natAbs p q hp hq h0 (Nat.le_refl _) (by unfold Ent at hq; omega) w

set_option maxHeartbeats 1000000 in
theorem rop_no (p q : Int) (h : isF p q = false) (a : Addr) (w : World) (hE : Er w a) :
    Calls Tryd.prog 37 #[(.agg #[.int .i64 p, .int .i64 q])] w fun e w' => e = errPanic a ∧ Below w.heap.size w w' := by
  have H := Lib.hid h
  have HE := Lib.hid hE
  clear h hE
  go_enter Tryd.func37, Tryd.ntmps37
  go_wp2_with fail
  refine (must1_no _ p q H.out a _ (Box.newAt (by simp) _ _) ((HE.out.alloc _).alloc _)).mono ?_
  unfold errPanic
  rintro e w1 ⟨rfl, hb1⟩
  go_wp2
  exact ⟨rfl, rfl, by repeat (first | with_reducible exact own_refl _ | with_reducible assumption | with_reducible apply own_alloc | with_reducible apply own_drewN | with_reducible apply own_drew | ((with_reducible refine own_setCell ?_ ?_ _); rotate_left; focus (first | (simp; done) | (simp; omega))) | (with_reducible (refine own_trans ?_ (by assumption))))⟩
set_option maxHeartbeats 1000000 in
theorem rop_state (p q : Int) (h : isF p q = true) (hs : p ≤ 0 ∨ q = 0) (w : World) :
    Calls Tryd.prog 37 #[(.agg #[.int .i64 p, .int .i64 q])] w (RetS [] 5 w) := by
  have H := Lib.hid h
  clear h
  go_enter Tryd.func37, Tryd.ntmps37
  go_wp2_with fail
  refine (must1_yes _ p q H.out _ (Box.newAt (by simp) _ _)).mono ?_
  rintro e w1 ⟨rfl, hb1⟩
  have BA : Box w1 w.heap.size [.int .i64 p, .int .i64 q] := Box.below (Box.alloc (Box.new _ _ _) _) hb1
  obtain ⟨_, _, _, _, _⟩ := BA.two
  by_cases h1 : p ≤ 0
  · go_wp2
    go_ret2
    exact ⟨_, rfl, Sl.nil _ _ _ (Nat.le_refl _), by repeat (first | with_reducible exact own_refl _ | with_reducible assumption | with_reducible apply own_alloc | with_reducible apply own_drewN | with_reducible apply own_drew | ((with_reducible refine own_setCell ?_ ?_ _); rotate_left; focus (first | (simp; done) | (simp; omega))) | (with_reducible (refine own_trans ?_ (by assumption))))⟩
  · obtain rfl : q = 0 := by omega
    go_wp2
    go_ret2
    exact ⟨_, rfl, Sl.nil _ _ _ (Nat.le_refl _), by repeat (first | with_reducible exact own_refl _ | with_reducible assumption | with_reducible apply own_alloc | with_reducible apply own_drewN | with_reducible apply own_drew | ((with_reducible refine own_setCell ?_ ?_ _); rotate_left; focus (first | (simp; done) | (simp; omega))) | (with_reducible (refine own_trans ?_ (by assumption))))⟩
set_option maxHeartbeats 1000000 in
theorem rop_limit (p q : Int) (h : isF p q = true) (h1 : 0 < p) (h2 : (q == 0) = false) (hl : allW [p, q] 10000 = false) (w : World) :
    Calls Tryd.prog 37 #[(.agg #[.int .i64 p, .int .i64 q])] w (RetS [] 3 w) := by
  have H := Lib.hid h
  have HL := Lib.hid hl
  have h1' : ¬ p ≤ 0 := by omega
  clear h hl
  go_enter Tryd.func37, Tryd.ntmps37
  go_wp2_with fail
  refine (must1_yes _ p q H.out _ (Box.newAt (by simp) _ _)).mono ?_
  rintro e w1 ⟨rfl, hb1⟩
  have BA : Box w1 w.heap.size [.int .i64 p, .int .i64 q] := Box.below (Box.alloc (Box.new _ _ _) _) hb1
  obtain ⟨_, _, _, _, _⟩ := BA.two
  go_wp2_with fail
  refine (allWF_is false p q w.heap.size _ HL.out (by assumption) (by assumption)).mono ?_
  rintro e w2 ⟨rfl, rfl⟩
  go_wp2
  go_ret2
  exact ⟨_, rfl, Sl.nil _ _ _ (Nat.le_refl _), by repeat (first | with_reducible exact own_refl _ | with_reducible assumption | with_reducible apply own_alloc | with_reducible apply own_drewN | with_reducible apply own_drew | ((with_reducible refine own_setCell ?_ ?_ _); rotate_left; focus (first | (simp; done) | (simp; omega))) | (with_reducible (refine own_trans ?_ (by assumption))))⟩
set_option maxRecDepth 100000 in
set_option maxHeartbeats 2000000 in
theorem rop_some (p q : Int) (xs : List Int) (n : Nat) (y : Int) (h : isF p q = true) (h1 : 0 < p) (hq : 0 < q) (h2 : (q == 0) = false) (hl : allW [p, q] 10000 = true) (hx : cfL q.natAbs p q = xs) (hn : xs.length = n + 1) (hy : xs.getD n 0 - 1 = y)
    (hy1 : -1000000000 ≤ y) (hy2 : y ≤ 1000000000) (h0 : (y == 0) = false) (hn' : n ≤ 1000000) (w : World) :
    Calls Tryd.prog 37 #[(.agg #[.int .i64 p, .int .i64 q])] w (RetS (xs.set n y) 0 w) := by
  have H := Lib.hid h
  have HE := Lib.hid (isF_ent h)
  have HL := Lib.hid hl
  have HX := Lib.hid hx
  have HQ := Lib.hid hq
  have HN := Lib.hid hn
  have h1' : ¬ p ≤ 0 := by omega
  obtain ⟨x, hxn⟩ : ∃ x, xs.getD n 0 = x := ⟨_, rfl⟩
  have HXN := Lib.hid hxn
  have hxy : x - 1 = y := by rw [← hxn]; exact hy
  have hw : IntKind.i64.wrap (x - 1) = y := by rw [hxy]; exact IntWalk.i64_in _ (by omega)
  have hw2 : IntKind.i64.wrap (((n + 1 : Nat) : Int) - 1) = (n : Int) := by rw [show ((n + 1 : Nat) : Int) - 1 = n by omega]; exact IntWalk.i64_in _ (by omega)
  clear h hl hx hq hn hy hxn
  go_enter Tryd.func37, Tryd.ntmps37
  go_wp2_with fail
  refine (must1_yes _ p q H.out _ (Box.newAt (by simp) _ _)).mono ?_
  rintro e w1 ⟨rfl, hb1⟩
  have BA : Box w1 w.heap.size [.int .i64 p, .int .i64 q] := Box.below (Box.alloc (Box.new _ _ _) _) hb1
  have T1 : Below w.heap.size w w1 := by repeat (first | with_reducible exact own_refl _ | with_reducible assumption | with_reducible apply own_alloc | with_reducible apply own_drewN | with_reducible apply own_drew | ((with_reducible refine own_setCell ?_ ?_ _); rotate_left; focus (first | (simp; done) | (simp; omega))) | (with_reducible (refine own_trans ?_ (by assumption))))
  obtain ⟨_, _, _, _, _⟩ := BA.two
  go_wp2_with fail
  refine (allWF_is true p q w.heap.size _ HL.out (by assumption) (by assumption)).mono ?_
  rintro e w2 ⟨rfl, rfl⟩
  go_wp2_with fail
  refine (implCf_is xs p q HX.out HE.out.1 HE.out.2.1 HQ.out _).mono ?_
  rintro e w2 ⟨v, rfl, hG, hb2⟩
  have T2 := own_trans T1 hb2
  have hS := hG.sl
  have hS2 := hS
  obtain ⟨hu, a, cap, rfl, hc⟩ := hS2
  obtain ⟨g, off, rfl, hg, hg', hr⟩ := hc (by rw [HN.out]; omega)
  obtain ⟨c1, c2⟩ := hr n (by rw [HN.out]; omega)
  rw [HXN.out] at c1
  have hlt : w.heap.size ≤ g := by have := T1.size; omega
  have hP := (Sl.put hS n (by rw [HN.out]; omega) y rfl).weak (L' := w.heap.size) (by have := T1.size; omega)
  clear hr hc hS hG hb1 hb2 BA
  generalize hlen : xs.length = m at *
  obtain rfl : m = n + 1 := HN.out
  go_wp2
  go_ret2
  exact ⟨_, rfl, hP.upto (by simp [World.setCell]) (Nat.le_refl _), by repeat (first | with_reducible exact own_refl _ | with_reducible assumption | with_reducible apply own_alloc | with_reducible apply own_drewN | with_reducible apply own_drew | ((with_reducible refine own_setCell ?_ ?_ _); rotate_left; focus (first | (simp; done) | (simp; omega))) | (with_reducible (refine own_trans ?_ (by assumption))))⟩
set_option maxRecDepth 100000 in
set_option maxHeartbeats 2000000 in
theorem rop_zero (p q : Int) (xs : List Int) (n : Nat) (y : Int) (h : isF p q = true) (h1 : 0 < p) (hq : 0 < q) (h2 : (q == 0) = false) (hl : allW [p, q] 10000 = true) (hx : cfL q.natAbs p q = xs) (hn : xs.length = n + 1) (hy : xs.getD n 0 - 1 = y)
    (hy1 : -1000000000 ≤ y) (hy2 : y ≤ 1000000000) (h0 : (y == 0) = true) (hn' : n ≤ 1000000) (w : World) :
    Calls Tryd.prog 37 #[(.agg #[.int .i64 p, .int .i64 q])] w (RetS [] 0 w) := by
  have H := Lib.hid h
  have HE := Lib.hid (isF_ent h)
  have HL := Lib.hid hl
  have HX := Lib.hid hx
  have HQ := Lib.hid hq
  have HN := Lib.hid hn
  have h1' : ¬ p ≤ 0 := by omega
  obtain ⟨x, hxn⟩ : ∃ x, xs.getD n 0 = x := ⟨_, rfl⟩
  have HXN := Lib.hid hxn
  have hxy : x - 1 = y := by rw [← hxn]; exact hy
  have hw : IntKind.i64.wrap (x - 1) = y := by rw [hxy]; exact IntWalk.i64_in _ (by omega)
  have hw2 : IntKind.i64.wrap (((n + 1 : Nat) : Int) - 1) = (n : Int) := by rw [show ((n + 1 : Nat) : Int) - 1 = n by omega]; exact IntWalk.i64_in _ (by omega)
  clear h hl hx hq hn hy hxn
  go_enter Tryd.func37, Tryd.ntmps37
  go_wp2_with fail
  refine (must1_yes _ p q H.out _ (Box.newAt (by simp) _ _)).mono ?_
  rintro e w1 ⟨rfl, hb1⟩
  have BA : Box w1 w.heap.size [.int .i64 p, .int .i64 q] := Box.below (Box.alloc (Box.new _ _ _) _) hb1
  have T1 : Below w.heap.size w w1 := by repeat (first | with_reducible exact own_refl _ | with_reducible assumption | with_reducible apply own_alloc | with_reducible apply own_drewN | with_reducible apply own_drew | ((with_reducible refine own_setCell ?_ ?_ _); rotate_left; focus (first | (simp; done) | (simp; omega))) | (with_reducible (refine own_trans ?_ (by assumption))))
  obtain ⟨_, _, _, _, _⟩ := BA.two
  go_wp2_with fail
  refine (allWF_is true p q w.heap.size _ HL.out (by assumption) (by assumption)).mono ?_
  rintro e w2 ⟨rfl, rfl⟩
  go_wp2_with fail
  refine (implCf_is xs p q HX.out HE.out.1 HE.out.2.1 HQ.out _).mono ?_
  rintro e w2 ⟨v, rfl, hG, hb2⟩
  have T2 := own_trans T1 hb2
  have hS := hG.sl
  have hS2 := hS
  obtain ⟨hu, a, cap, rfl, hc⟩ := hS2
  obtain ⟨g, off, rfl, hg, hg', hr⟩ := hc (by rw [HN.out]; omega)
  obtain ⟨c1, c2⟩ := hr n (by rw [HN.out]; omega)
  rw [HXN.out] at c1
  have hlt : w.heap.size ≤ g := by have := T1.size; omega
  clear hr hc hS hG hb1 hb2 BA
  generalize hlen : xs.length = m at *
  obtain rfl : m = n + 1 := HN.out
  go_wp2
  go_ret2
  exact ⟨_, rfl, Sl.nil _ _ _ (Nat.le_refl _), by repeat (first | with_reducible exact own_refl _ | with_reducible assumption | with_reducible apply own_alloc | with_reducible apply own_drewN | with_reducible apply own_drew | ((with_reducible refine own_setCell ?_ ?_ _); rotate_left; focus (first | (simp; done) | (simp; omega))) | (with_reducible (refine own_trans ?_ (by assumption))))⟩

/-- The closure of ParentsOf: what its result cell and code come to. -/
theorem cloP_no (p q : Int) (g1 : Nat) (h1 : isF p q = false) (a : Addr) (w : World) (B1 : Box w g1 [.int .i64 p, .int .i64 q]) (hE : Er w a) :
    Calls Tryd.prog 36 #[.pointer (some ⟨g1, 0, none⟩)] w fun e w' => e = errPanic a ∧ Below w.heap.size w w' := by
  have H := Lib.hid h1
  have HE := Lib.hid hE
  clear h1 hE
  obtain ⟨_, _, _, _, _⟩ := B1.two
  go_enter Tryd.func36, Tryd.ntmps36
  go_wp2_with fail
  refine (rop_no p q H.out a _ (HE.out.alloc _)).mono ?_
  unfold errPanic
  rintro e w1 ⟨rfl, hb1⟩
  go_wp2
  exact ⟨rfl, rfl, by repeat (first | with_reducible exact own_refl _ | with_reducible assumption | with_reducible apply own_alloc | with_reducible apply own_drewN | with_reducible apply own_drew | ((with_reducible refine own_setCell ?_ ?_ _); rotate_left; focus (first | (simp; done) | (simp; omega))) | (with_reducible (refine own_trans ?_ (by assumption))))⟩
set_option maxHeartbeats 1000000 in
theorem cloP_code (p q k : Int) (g1 : Nat) (hk : (k != 0) = true) (hr : ∀ w, Calls Tryd.prog 37 #[(.agg #[.int .i64 p, .int .i64 q])] w (RetS [] k w)) (w : World) (B1 : Box w g1 [.int .i64 p, .int .i64 q]) :
    Calls Tryd.prog 36 #[.pointer (some ⟨g1, 0, none⟩)] w fun e w' => e = .returned (.tuple #[(.agg #[.int .i64 0, .int .i64 0, .int .i64 0, .int .i64 0]), (.int .i64 k)]) ∧ Below w.heap.size w w' := by
  have HR := Lib.hid hr
  clear hr
  obtain ⟨_, _, _, _, _⟩ := B1.two
  go_enter Tryd.func36, Tryd.ntmps36
  go_wp2_with fail
  refine (HR.out _).mono ?_
  rintro e w1 ⟨v, rfl, hS, hb1⟩
  have R1 : Box w1 w.heap.size [.int .i64 0, .int .i64 0, .int .i64 0, .int .i64 0] := Box.below (Box.new _ _ _) hb1
  obtain ⟨_, _, _, _, _, _, _, _, _⟩ := R1.four
  obtain ⟨_, a, cap, rfl, _⟩ := hS
  go_wp2
  obtain ⟨d0, d1, d2, d3⟩ := R1.reads4' (.int .i64 0) (.int .i64 0) (.int .i64 0) (.int .i64 0)
  exact bodyPost_ret (v := .tuple #[(.agg #[.int .i64 0, .int .i64 0, .int .i64 0, .int .i64 0]), (.int .i64 k)]) (by simp [results, Tryd.results36, go_sem, d0, d1, d2, d3]) rfl ⟨rfl, by repeat (first | with_reducible exact own_refl _ | with_reducible assumption | with_reducible apply own_alloc | with_reducible apply own_drewN | with_reducible apply own_drew | ((with_reducible refine own_setCell ?_ ?_ _); rotate_left; focus (first | (simp; done) | (simp; omega))) | (with_reducible (refine own_trans ?_ (by assumption))))⟩
set_option maxHeartbeats 1000000 in
theorem cloP_one (p q : Int) (g1 : Nat) (hr : ∀ w, Calls Tryd.prog 37 #[(.agg #[.int .i64 p, .int .i64 q])] w (RetS [] 0 w)) (w : World) (B1 : Box w g1 [.int .i64 p, .int .i64 q]) (hid : Idn w) :
    Calls Tryd.prog 36 #[.pointer (some ⟨g1, 0, none⟩)] w fun e w' => e = .returned (.tuple #[(.agg #[.int .i64 1, .int .i64 0, .int .i64 0, .int .i64 1]), (.int .i64 0)]) ∧ Below w.heap.size w w' := by
  have HR := Lib.hid hr
  clear hr
  obtain ⟨_, _, _, _, _⟩ := B1.two
  go_enter Tryd.func36, Tryd.ntmps36
  go_wp2_with fail
  refine (HR.out _).mono ?_
  rintro e w1 ⟨v, rfl, hS, hb1⟩
  have R1 : Box w1 w.heap.size [.int .i64 0, .int .i64 0, .int .i64 0, .int .i64 0] := Box.below (Box.new _ _ _) hb1
  have IX : Idn w1 := Rd.below (Rd.alloc hid _) hb1
  obtain ⟨_, a, cap, rfl, _⟩ := hS
  go_wp2_with fail
  refine (implMor_nil a cap _ IX).mono ?_
  rintro e w2 ⟨rfl, hb2⟩
  have R2 := R1.below hb2
  obtain ⟨_, _, _, _, _, _, _, _, _⟩ := R2.four
  go_wp2
  obtain ⟨d0, d1, d2, d3⟩ := R2.reads4' (.int .i64 1) (.int .i64 0) (.int .i64 0) (.int .i64 1)
  exact bodyPost_ret (v := .tuple #[(.agg #[.int .i64 1, .int .i64 0, .int .i64 0, .int .i64 1]), (.int .i64 0)]) (by simp [results, Tryd.results36, go_sem, d0, d1, d2, d3]) rfl ⟨rfl, by repeat (first | with_reducible exact own_refl _ | with_reducible assumption | with_reducible apply own_alloc | with_reducible apply own_drewN | with_reducible apply own_drew | ((with_reducible refine own_setCell ?_ ?_ _); rotate_left; focus (first | (simp; done) | (simp; omega))) | (with_reducible (refine own_trans ?_ (by assumption))))⟩
set_option maxHeartbeats 1000000 in
theorem cloP_some (p q : Int) (xs : List Int) (r : Mat) (g1 : Nat) (h1 : 1 ≤ xs.length) (hn : xs.length ≤ 100) (hok : runsOk xs = true) (hPA : PA (runMats 0 xs) r 0) (hr : ∀ w, Calls Tryd.prog 37 #[(.agg #[.int .i64 p, .int .i64 q])] w (RetS xs 0 w)) (w : World) (B1 : Box w g1 [.int .i64 p, .int .i64 q]) (hid : Idn w) :
    Calls Tryd.prog 36 #[.pointer (some ⟨g1, 0, none⟩)] w fun e w' => e = .returned (.tuple #[(.agg #[.int .i64 r.a, .int .i64 r.b, .int .i64 r.c, .int .i64 r.d]), (.int .i64 0)]) ∧ Below w.heap.size w w' := by
  have HR := Lib.hid hr
  have HP := Lib.hid hPA
  have HOK := Lib.hid hok
  clear hr hPA hok
  obtain ⟨_, _, _, _, _⟩ := B1.two
  go_enter Tryd.func36, Tryd.ntmps36
  go_wp2_with fail
  refine (HR.out _).mono ?_
  rintro e w1 ⟨v, rfl, hS, hb1⟩
  have R1 : Box w1 w.heap.size [.int .i64 0, .int .i64 0, .int .i64 0, .int .i64 0] := Box.below (Box.new _ _ _) hb1
  have IX : Idn w1 := Rd.below (Rd.alloc hid _) hb1
  obtain ⟨a, cap, rfl, hc⟩ := slice_open hS
  obtain ⟨g, off, rfl, hg, hr⟩ := hc h1
  have HC := Lib.hid hr
  clear hr hc hS
  go_wp2_with fail
  refine (implMor_some g off cap xs h1 hn HOK.out r 0 HP.out _ IX hg HC.out).mono ?_
  rintro e w2 ⟨rfl, hb2⟩
  have R2 := R1.below hb2
  obtain ⟨_, _, _, _, _, _, _, _, _⟩ := R2.four
  go_wp2
  obtain ⟨d0, d1, d2, d3⟩ := R2.reads4' (.int .i64 r.a) (.int .i64 r.b) (.int .i64 r.c) (.int .i64 r.d)
  exact bodyPost_ret (v := .tuple #[(.agg #[.int .i64 r.a, .int .i64 r.b, .int .i64 r.c, .int .i64 r.d]), (.int .i64 0)]) (by simp [results, Tryd.results36, go_sem, d0, d1, d2, d3]) rfl ⟨rfl, by repeat (first | with_reducible exact own_refl _ | with_reducible assumption | with_reducible apply own_alloc | with_reducible apply own_drewN | with_reducible apply own_drew | ((with_reducible refine own_setCell ?_ ?_ _); rotate_left; focus (first | (simp; done) | (simp; omega))) | (with_reducible (refine own_trans ?_ (by assumption))))⟩

set_option maxRecDepth 100000 in
set_option maxHeartbeats 2000000 in
theorem implPar_ok (p q : Int) (r : Mat) (c : Int) (w : World) (hid : Idn w) (hclo : ∀ (w0 : World) (g1 : Nat), Box w0 g1 [.int .i64 p, .int .i64 q] → Idn w0 → Calls Tryd.prog 36 #[.pointer (some ⟨g1, 0, none⟩)] w0 fun e w' => e = .returned (.tuple #[(.agg #[.int .i64 r.a, .int .i64 r.b, .int .i64 r.c, .int .i64 r.d]), (.int .i64 c)]) ∧ Below w0.heap.size w0 w') :
    Calls Tryd.prog 16 #[(.agg #[.int .i64 p, .int .i64 q])] w fun e w' => e = .returned (.tuple #[(.agg #[.int .i64 r.b, .int .i64 r.d]), (.agg #[.int .i64 r.a, .int .i64 r.c]), (.int .i64 c)]) ∧ Below w.heap.size w w' := by
  have hmf : ∀ (fn : Fn) (first cap : Array Value) (w : World), (Instr.makeFunc fn first cap).run Tryd.prog w = .ok (.func fn first cap) w := fun _ _ _ _ => rfl
  have HC := Lib.hid hclo
  clear hclo
  go_enter Tryd.func16, Tryd.ntmps16
  go_wp2_with fail
  refine (doorM_yes _ _ r.a r.b r.c r.d c _ (fun _ => by kernel_rfl) (fun w0 hb0 => HC.out w0 w.heap.size ((((Box.new _ _ _).alloc _).alloc _).below hb0) (Rd.below (((Rd.alloc hid _).alloc _).alloc _) hb0))).mono ?_
  rintro e w1 ⟨rfl, hb1⟩
  have R1 : Box w1 (w.heap.size + 1) [.int .i64 0, .int .i64 0] := Box.below (Box.alloc (Box.newAt (by simp) _ _) _) hb1
  have R2 : Box w1 (w.heap.size + 1 + 1) [.int .i64 0, .int .i64 0] := Box.below (Box.newAt (by simp) _ _) hb1
  have hz1 : w.heap.size + 1 + 1 < w1.heap.size := R2.1
  have C1 := R1.alloc (.cells #[.int .i64 r.a, .int .i64 r.b, .int .i64 r.c, .int .i64 r.d] 25)
  have C2 := R2.alloc (.cells #[.int .i64 r.a, .int .i64 r.b, .int .i64 r.c, .int .i64 r.d] 25)
  have CM : Box (w1.alloc (.cells #[.int .i64 r.a, .int .i64 r.b, .int .i64 r.c, .int .i64 r.d] 25)) w1.heap.size [.int .i64 r.a, .int .i64 r.b, .int .i64 r.c, .int .i64 r.d] := Box.new _ _ _
  have TW : Below w.heap.size w (w1.alloc (.cells #[.int .i64 r.a, .int .i64 r.b, .int .i64 r.c, .int .i64 r.d] 25)) := by repeat (first | with_reducible exact own_refl _ | with_reducible assumption | with_reducible apply own_alloc | with_reducible apply own_drewN | with_reducible apply own_drew | ((with_reducible refine own_setCell ?_ ?_ _); rotate_left; focus (first | (simp; done) | (simp; omega))) | (with_reducible (refine own_trans ?_ (by assumption))))
  obtain ⟨_, _, _, _, _, _, _, _, _⟩ := CM.four
  obtain ⟨_, _, _, _, _⟩ := C1.two
  obtain ⟨_, _, _, _, _⟩ := C2.two
  have RA1 := (C1.put2 (.int .i64 r.b) (.int .i64 r.d)).far2 (b := w.heap.size + 1 + 1) (by omega) (.int .i64 r.a) (.int .i64 r.c)
  have RA2 := (C2.far2 (b := w.heap.size + 1) (by omega) (.int .i64 r.b) (.int .i64 r.d)).put2 (.int .i64 r.a) (.int .i64 r.c)
  have RB1 := (C1.far2 (b := w.heap.size + 1 + 1) (by omega) (.int .i64 r.a) (.int .i64 r.c)).put2 (.int .i64 r.b) (.int .i64 r.d)
  have RB2 := (C2.put2 (.int .i64 r.a) (.int .i64 r.c)).far2 (b := w.heap.size + 1) (by omega) (.int .i64 r.b) (.int .i64 r.d)
  obtain ⟨_, ra0, ra1, _, _⟩ := RA1.two
  obtain ⟨_, ra2, ra3, _, _⟩ := RA2.two
  obtain ⟨_, rb0, rb1, _, _⟩ := RB1.two
  obtain ⟨_, rb2, rb3, _, _⟩ := RB2.two
  have RALL := Lib.hid (And.intro (And.intro ra0 ra1) (And.intro ra2 ra3))
  have RBLL := Lib.hid (And.intro (And.intro rb0 rb1) (And.intro rb2 rb3))
  clear ra0 ra1 ra2 ra3 rb0 rb1 rb2 rb3 RA1 RA2 RB1 RB2
  go_upto_region 2 with fail
  go_region
  all_goals
    go_wp2
    first
      | exact bodyPost_ret (v := .tuple #[(.agg #[.int .i64 r.b, .int .i64 r.d]), (.agg #[.int .i64 r.a, .int .i64 r.c]), (.int .i64 c)]) (by simp [results, Tryd.results16, go_sem, RALL.out.1.1, RALL.out.1.2, RALL.out.2.1, RALL.out.2.2]) rfl ⟨rfl, by repeat (first | with_reducible exact own_refl _ | with_reducible assumption | with_reducible apply own_alloc | with_reducible apply own_drewN | with_reducible apply own_drew | ((with_reducible refine own_setCell ?_ ?_ _); rotate_left; focus (first | (simp; done) | (simp; omega))) | (with_reducible (refine own_trans ?_ (by assumption))))⟩
      | exact bodyPost_ret (v := .tuple #[(.agg #[.int .i64 r.b, .int .i64 r.d]), (.agg #[.int .i64 r.a, .int .i64 r.c]), (.int .i64 c)]) (by simp [results, Tryd.results16, go_sem, RBLL.out.1.1, RBLL.out.1.2, RBLL.out.2.1, RBLL.out.2.2]) rfl ⟨rfl, by repeat (first | with_reducible exact own_refl _ | with_reducible assumption | with_reducible apply own_alloc | with_reducible apply own_drewN | with_reducible apply own_drew | ((with_reducible refine own_setCell ?_ ?_ _); rotate_left; focus (first | (simp; done) | (simp; omega))) | (with_reducible (refine own_trans ?_ (by assumption))))⟩
set_option maxRecDepth 100000 in
set_option maxHeartbeats 2000000 in
theorem implPar_no (p q : Int) (h : isF p q = false) (a : Addr) (w : World) (hE : Er w a) :
    Calls Tryd.prog 16 #[(.agg #[.int .i64 p, .int .i64 q])] w fun e w' => e = .returned (.tuple #[(.agg #[.int .i64 0, .int .i64 0]), (.agg #[.int .i64 0, .int .i64 0]), (.int .i64 1)]) ∧ Below w.heap.size w w' := by
  have hmf : ∀ (fn : Fn) (first cap : Array Value) (w : World), (Instr.makeFunc fn first cap).run Tryd.prog w = .ok (.func fn first cap) w := fun _ _ _ _ => rfl
  have H := Lib.hid h
  have HE := Lib.hid hE
  clear h hE
  obtain ⟨r, hr⟩ : ∃ r : Mat, r = ⟨0, 0, 0, 0⟩ := ⟨_, rfl⟩
  go_enter Tryd.func16, Tryd.ntmps16
  go_wp2_with fail
  refine (doorM_no _ _ a _ (fun _ => by kernel_rfl) (fun w0 hb0 => cloP_no p q w.heap.size H.out a w0 ((((Box.new _ _ _).alloc _).alloc _).below hb0) ((((HE.out.alloc _).alloc _).alloc _).below hb0))).mono ?_
  rintro e w1 ⟨rfl, hb1⟩
  have R1 : Box w1 (w.heap.size + 1) [.int .i64 0, .int .i64 0] := Box.below (Box.alloc (Box.newAt (by simp) _ _) _) hb1
  have R2 : Box w1 (w.heap.size + 1 + 1) [.int .i64 0, .int .i64 0] := Box.below (Box.newAt (by simp) _ _) hb1
  have hz1 : w.heap.size + 1 + 1 < w1.heap.size := R2.1
  have C1 := R1.alloc (.cells #[.int .i64 0, .int .i64 0, .int .i64 0, .int .i64 0] 25)
  have C2 := R2.alloc (.cells #[.int .i64 0, .int .i64 0, .int .i64 0, .int .i64 0] 25)
  have CM : Box (w1.alloc (.cells #[.int .i64 0, .int .i64 0, .int .i64 0, .int .i64 0] 25)) w1.heap.size [.int .i64 0, .int .i64 0, .int .i64 0, .int .i64 0] := Box.new _ _ _
  have TW : Below w.heap.size w (w1.alloc (.cells #[.int .i64 0, .int .i64 0, .int .i64 0, .int .i64 0] 25)) := by repeat (first | with_reducible exact own_refl _ | with_reducible assumption | with_reducible apply own_alloc | with_reducible apply own_drewN | with_reducible apply own_drew | ((with_reducible refine own_setCell ?_ ?_ _); rotate_left; focus (first | (simp; done) | (simp; omega))) | (with_reducible (refine own_trans ?_ (by assumption))))
  obtain ⟨_, _, _, _, _, _, _, _, _⟩ := CM.four
  obtain ⟨_, _, _, _, _⟩ := C1.two
  obtain ⟨_, _, _, _, _⟩ := C2.two
  have RA1 := (C1.put2 (.int .i64 0) (.int .i64 0)).far2 (b := w.heap.size + 1 + 1) (by omega) (.int .i64 0) (.int .i64 0)
  have RA2 := (C2.far2 (b := w.heap.size + 1) (by omega) (.int .i64 0) (.int .i64 0)).put2 (.int .i64 0) (.int .i64 0)
  have RB1 := (C1.far2 (b := w.heap.size + 1 + 1) (by omega) (.int .i64 0) (.int .i64 0)).put2 (.int .i64 0) (.int .i64 0)
  have RB2 := (C2.put2 (.int .i64 0) (.int .i64 0)).far2 (b := w.heap.size + 1) (by omega) (.int .i64 0) (.int .i64 0)
  obtain ⟨_, ra0, ra1, _, _⟩ := RA1.two
  obtain ⟨_, ra2, ra3, _, _⟩ := RA2.two
  obtain ⟨_, rb0, rb1, _, _⟩ := RB1.two
  obtain ⟨_, rb2, rb3, _, _⟩ := RB2.two
  have RALL := Lib.hid (And.intro (And.intro ra0 ra1) (And.intro ra2 ra3))
  have RBLL := Lib.hid (And.intro (And.intro rb0 rb1) (And.intro rb2 rb3))
  clear ra0 ra1 ra2 ra3 rb0 rb1 rb2 rb3 RA1 RA2 RB1 RB2
  go_upto_region 2 with fail
  go_region
  all_goals
    go_wp2
    first
      | exact bodyPost_ret (v := .tuple #[(.agg #[.int .i64 0, .int .i64 0]), (.agg #[.int .i64 0, .int .i64 0]), (.int .i64 1)]) (by simp [results, Tryd.results16, go_sem, RALL.out.1.1, RALL.out.1.2, RALL.out.2.1, RALL.out.2.2]) rfl ⟨rfl, by repeat (first | with_reducible exact own_refl _ | with_reducible assumption | with_reducible apply own_alloc | with_reducible apply own_drewN | with_reducible apply own_drew | ((with_reducible refine own_setCell ?_ ?_ _); rotate_left; focus (first | (simp; done) | (simp; omega))) | (with_reducible (refine own_trans ?_ (by assumption))))⟩
      | exact bodyPost_ret (v := .tuple #[(.agg #[.int .i64 0, .int .i64 0]), (.agg #[.int .i64 0, .int .i64 0]), (.int .i64 1)]) (by simp [results, Tryd.results16, go_sem, RBLL.out.1.1, RBLL.out.1.2, RBLL.out.2.1, RBLL.out.2.2]) rfl ⟨rfl, by repeat (first | with_reducible exact own_refl _ | with_reducible assumption | with_reducible apply own_alloc | with_reducible apply own_drewN | with_reducible apply own_drew | ((with_reducible refine own_setCell ?_ ?_ _); rotate_left; focus (first | (simp; done) | (simp; omega))) | (with_reducible (refine own_trans ?_ (by assumption))))⟩

/-- The model. -/
theorem given_is (p q k : Int) (hk : (isF p q = false ∧ k = 1) ∨ (isF p q = true ∧ (p ≤ 0 ∨ q = 0) ∧ k = 5) ∨ (isF p q = true ∧ 0 < p ∧ (q == 0) = false ∧ (10000 < p ∨ 10000 < q) ∧ k = 3) ∨ (isF p q = true ∧ 0 < p ∧ (q == 0) = false ∧ p ≤ 10000 ∧ q ≤ 10000 ∧ k = 0)) (w : World) :
    Calls Tryd.prog 33 #[(.agg #[.int .i64 p, .int .i64 q])] w fun e w' => e = .returned (.int .i64 k) ∧ Below w.heap.size w w' := by
  rcases hk with ⟨h, rfl⟩ | ⟨h, hs, rfl⟩ | ⟨h, h1, h2, hs, rfl⟩ | ⟨h, h1, h2, h3, h4, rfl⟩
  · have H := Lib.hid h
    clear h
    go_enter Tryd.func33, Tryd.ntmps33
    go_wp2_with fail
    refine (l03F_is false _ _ H.out _).mono ?_
    rintro e w1 ⟨rfl, hb1⟩
    go_wp2
    go_ret
    exact ⟨rfl, by repeat (first | with_reducible exact own_refl _ | with_reducible assumption | with_reducible apply own_alloc | with_reducible apply own_drewN | with_reducible apply own_drew | ((with_reducible refine own_setCell ?_ ?_ _); rotate_left; focus (first | (simp; done) | (simp; omega))) | (with_reducible (refine own_trans ?_ (by assumption))))⟩
  · have H := Lib.hid h
    clear h
    go_enter Tryd.func33, Tryd.ntmps33
    go_wp2_with fail
    refine (l03F_is true _ _ H.out _).mono ?_
    rintro e w1 ⟨rfl, hb1⟩
    have BA : Box w1 w.heap.size [.int .i64 p, .int .i64 q] := Box.below (Box.new _ _ _) hb1
    obtain ⟨_, _, _, _, _⟩ := BA.two
    by_cases h1 : p ≤ 0
    · go_wp2
      go_ret
      exact ⟨rfl, by repeat (first | with_reducible exact own_refl _ | with_reducible assumption | with_reducible apply own_alloc | with_reducible apply own_drewN | with_reducible apply own_drew | ((with_reducible refine own_setCell ?_ ?_ _); rotate_left; focus (first | (simp; done) | (simp; omega))) | (with_reducible (refine own_trans ?_ (by assumption))))⟩
    · obtain rfl : q = 0 := by omega
      go_wp2
      go_ret
      exact ⟨rfl, by repeat (first | with_reducible exact own_refl _ | with_reducible assumption | with_reducible apply own_alloc | with_reducible apply own_drewN | with_reducible apply own_drew | ((with_reducible refine own_setCell ?_ ?_ _); rotate_left; focus (first | (simp; done) | (simp; omega))) | (with_reducible (refine own_trans ?_ (by assumption))))⟩
  · have H := Lib.hid h
    have h1' : ¬ p ≤ 0 := by omega
    clear h
    go_enter Tryd.func33, Tryd.ntmps33
    go_wp2_with fail
    refine (l03F_is true _ _ H.out _).mono ?_
    rintro e w1 ⟨rfl, hb1⟩
    have BA : Box w1 w.heap.size [.int .i64 p, .int .i64 q] := Box.below (Box.new _ _ _) hb1
    obtain ⟨_, _, _, _, _⟩ := BA.two
    by_cases h3 : 10000 < p
    · go_wp2
      go_ret
      exact ⟨rfl, by repeat (first | with_reducible exact own_refl _ | with_reducible assumption | with_reducible apply own_alloc | with_reducible apply own_drewN | with_reducible apply own_drew | ((with_reducible refine own_setCell ?_ ?_ _); rotate_left; focus (first | (simp; done) | (simp; omega))) | (with_reducible (refine own_trans ?_ (by assumption))))⟩
    · have h4 : 10000 < q := by omega
      go_wp2
      go_ret
      exact ⟨rfl, by repeat (first | with_reducible exact own_refl _ | with_reducible assumption | with_reducible apply own_alloc | with_reducible apply own_drewN | with_reducible apply own_drew | ((with_reducible refine own_setCell ?_ ?_ _); rotate_left; focus (first | (simp; done) | (simp; omega))) | (with_reducible (refine own_trans ?_ (by assumption))))⟩
  · have H := Lib.hid h
    have h1' : ¬ p ≤ 0 := by omega
    have h3' : ¬ 10000 < p := by omega
    have h4' : ¬ 10000 < q := by omega
    clear h
    go_enter Tryd.func33, Tryd.ntmps33
    go_wp2_with fail
    refine (l03F_is true _ _ H.out _).mono ?_
    rintro e w1 ⟨rfl, hb1⟩
    have BA : Box w1 w.heap.size [.int .i64 p, .int .i64 q] := Box.below (Box.new _ _ _) hb1
    obtain ⟨_, _, _, _, _⟩ := BA.two
    go_wp2
    go_ret
    exact ⟨rfl, by repeat (first | with_reducible exact own_refl _ | with_reducible assumption | with_reducible apply own_alloc | with_reducible apply own_drewN | with_reducible apply own_drew | ((with_reducible refine own_setCell ?_ ?_ _); rotate_left; focus (first | (simp; done) | (simp; omega))) | (with_reducible (refine own_trans ?_ (by assumption))))⟩
set_option maxHeartbeats 1000000 in
theorem specPar_code (p q k : Int) (hk : (k != 0) = true) (hg : ∀ w, Calls Tryd.prog 33 #[(.agg #[.int .i64 p, .int .i64 q])] w fun e w' => e = .returned (.int .i64 k) ∧ Below w.heap.size w w') (w : World) :
    Calls Tryd.prog 14 #[(.agg #[.int .i64 p, .int .i64 q])] w fun e w' => e = .returned (.tuple #[(.agg #[.int .i64 0, .int .i64 0]), (.agg #[.int .i64 0, .int .i64 0]), (.int .i64 k)]) ∧ Below w.heap.size w w' := by
  have HG := Lib.hid hg
  clear hg
  go_enter Tryd.func14, Tryd.ntmps14
  go_wp2_with fail
  refine (HG.out _).mono ?_
  rintro e w1 ⟨rfl, hb1⟩
  have C1 : Box w1 (w.heap.size + 1) [.int .i64 0, .int .i64 0] := Box.below (Box.alloc (Box.newAt (by simp) _ _) _) hb1
  have C2 : Box w1 (w.heap.size + 1 + 1) [.int .i64 0, .int .i64 0] := Box.below (Box.newAt (by simp) _ _) hb1
  obtain ⟨_, _, _, _, _⟩ := C1.two
  obtain ⟨_, _, _, _, _⟩ := C2.two
  have RA1 := (C1.put2 (.int .i64 0) (.int .i64 0)).far2 (b := w.heap.size + 1 + 1) (by omega) (.int .i64 0) (.int .i64 0)
  have RA2 := (C2.far2 (b := w.heap.size + 1) (by omega) (.int .i64 0) (.int .i64 0)).put2 (.int .i64 0) (.int .i64 0)
  have RB1 := (C1.far2 (b := w.heap.size + 1 + 1) (by omega) (.int .i64 0) (.int .i64 0)).put2 (.int .i64 0) (.int .i64 0)
  have RB2 := (C2.put2 (.int .i64 0) (.int .i64 0)).far2 (b := w.heap.size + 1) (by omega) (.int .i64 0) (.int .i64 0)
  obtain ⟨_, ra0, ra1, _, _⟩ := RA1.two
  obtain ⟨_, ra2, ra3, _, _⟩ := RA2.two
  obtain ⟨_, rb0, rb1, _, _⟩ := RB1.two
  obtain ⟨_, rb2, rb3, _, _⟩ := RB2.two
  have RALL := Lib.hid (And.intro (And.intro ra0 ra1) (And.intro ra2 ra3))
  have RBLL := Lib.hid (And.intro (And.intro rb0 rb1) (And.intro rb2 rb3))
  clear ra0 ra1 ra2 ra3 rb0 rb1 rb2 rb3 RA1 RA2 RB1 RB2
  go_wp2
  exact bodyPost_ret (v := .tuple #[(.agg #[.int .i64 0, .int .i64 0]), (.agg #[.int .i64 0, .int .i64 0]), (.int .i64 k)]) (by simp [results, Tryd.results14, go_sem, RALL.out.1.1, RALL.out.1.2, RALL.out.2.1, RALL.out.2.2]) rfl ⟨rfl, by repeat (first | with_reducible exact own_refl _ | with_reducible assumption | with_reducible apply own_alloc | with_reducible apply own_drewN | with_reducible apply own_drew | ((with_reducible refine own_setCell ?_ ?_ _); rotate_left; focus (first | (simp; done) | (simp; omega))) | (with_reducible (refine own_trans ?_ (by assumption))))⟩
set_option maxRecDepth 100000 in
set_option maxHeartbeats 2000000 in
theorem specPar_ok (p q : Int) (r : Mat) (hg : ∀ w, Calls Tryd.prog 33 #[(.agg #[.int .i64 p, .int .i64 q])] w fun e w' => e = .returned (.int .i64 0) ∧ Below w.heap.size w w')
    (hw : ∀ w, Calls Tryd.prog 34 #[(.agg #[.int .i64 p, .int .i64 q])] w fun e w' => ∃ v, e = .returned (.tuple #[(.agg #[.int .i64 r.b, .int .i64 r.d]), (.agg #[.int .i64 r.a, .int .i64 r.c]), v]) ∧ Below w.heap.size w w') (w : World) :
    Calls Tryd.prog 14 #[(.agg #[.int .i64 p, .int .i64 q])] w fun e w' => e = .returned (.tuple #[(.agg #[.int .i64 r.b, .int .i64 r.d]), (.agg #[.int .i64 r.a, .int .i64 r.c]), (.int .i64 0)]) ∧ Below w.heap.size w w' := by
  have HG := Lib.hid hg
  have HW := Lib.hid hw
  clear hg hw
  go_enter Tryd.func14, Tryd.ntmps14
  go_wp2_with fail
  refine (HG.out _).mono ?_
  rintro e w1 ⟨rfl, hb1⟩
  have A1 : Box w1 w.heap.size [.int .i64 p, .int .i64 q] := Box.below (Box.alloc (Box.alloc (Box.new _ _ _) _) _) hb1
  have R1 : Box w1 (w.heap.size + 1) [.int .i64 0, .int .i64 0] := Box.below (Box.alloc (Box.newAt (by simp) _ _) _) hb1
  have R2 : Box w1 (w.heap.size + 1 + 1) [.int .i64 0, .int .i64 0] := Box.below (Box.newAt (by simp) _ _) hb1
  obtain ⟨_, _, _, _, _⟩ := A1.two
  go_wp2_with fail
  refine (HW.out _).mono ?_
  rintro e w2 ⟨v, rfl, hb2⟩
  have R12 := R1.below hb2
  have R22 := R2.below hb2
  have hz1 : w.heap.size + 1 + 1 < w2.heap.size := R22.1
  have C1 := (R12.alloc (.cells #[.int .i64 r.b, .int .i64 r.d] 31)).alloc (.cells #[.int .i64 r.a, .int .i64 r.c] 31)
  have C2 := (R22.alloc (.cells #[.int .i64 r.b, .int .i64 r.d] 31)).alloc (.cells #[.int .i64 r.a, .int .i64 r.c] 31)
  have D1 : Box ((w2.alloc (.cells #[.int .i64 r.b, .int .i64 r.d] 31)).alloc (.cells #[.int .i64 r.a, .int .i64 r.c] 31)) w2.heap.size [.int .i64 r.b, .int .i64 r.d] := Box.alloc (Box.new _ _ _) _
  have D2 : Box ((w2.alloc (.cells #[.int .i64 r.b, .int .i64 r.d] 31)).alloc (.cells #[.int .i64 r.a, .int .i64 r.c] 31)) (w2.heap.size + 1) [.int .i64 r.a, .int .i64 r.c] := Box.newAt (by simp) _ _
  have TW : Below w.heap.size w ((w2.alloc (.cells #[.int .i64 r.b, .int .i64 r.d] 31)).alloc (.cells #[.int .i64 r.a, .int .i64 r.c] 31)) := by repeat (first | with_reducible exact own_refl _ | with_reducible assumption | with_reducible apply own_alloc | with_reducible apply own_drewN | with_reducible apply own_drew | ((with_reducible refine own_setCell ?_ ?_ _); rotate_left; focus (first | (simp; done) | (simp; omega))) | (with_reducible (refine own_trans ?_ (by assumption))))
  obtain ⟨_, _, _, _, _⟩ := D1.two
  obtain ⟨_, _, _, _, _⟩ := D2.two
  obtain ⟨_, _, _, _, _⟩ := C1.two
  obtain ⟨_, _, _, _, _⟩ := C2.two
  have RA1 := (C1.put2 (.int .i64 r.b) (.int .i64 r.d)).far2 (b := w.heap.size + 1 + 1) (by omega) (.int .i64 r.a) (.int .i64 r.c)
  have RA2 := (C2.far2 (b := w.heap.size + 1) (by omega) (.int .i64 r.b) (.int .i64 r.d)).put2 (.int .i64 r.a) (.int .i64 r.c)
  have RB1 := (C1.far2 (b := w.heap.size + 1 + 1) (by omega) (.int .i64 r.a) (.int .i64 r.c)).put2 (.int .i64 r.b) (.int .i64 r.d)
  have RB2 := (C2.put2 (.int .i64 r.a) (.int .i64 r.c)).far2 (b := w.heap.size + 1) (by omega) (.int .i64 r.b) (.int .i64 r.d)
  obtain ⟨_, ra0, ra1, _, _⟩ := RA1.two
  obtain ⟨_, ra2, ra3, _, _⟩ := RA2.two
  obtain ⟨_, rb0, rb1, _, _⟩ := RB1.two
  obtain ⟨_, rb2, rb3, _, _⟩ := RB2.two
  have RALL := Lib.hid (And.intro (And.intro ra0 ra1) (And.intro ra2 ra3))
  have RBLL := Lib.hid (And.intro (And.intro rb0 rb1) (And.intro rb2 rb3))
  clear ra0 ra1 ra2 ra3 rb0 rb1 rb2 rb3 RA1 RA2 RB1 RB2
  go_upto_region 5 with fail
  go_region
  all_goals
    go_wp2
    first
      | exact bodyPost_ret (v := .tuple #[(.agg #[.int .i64 r.b, .int .i64 r.d]), (.agg #[.int .i64 r.a, .int .i64 r.c]), (.int .i64 0)]) (by simp [results, Tryd.results14, go_sem, RALL.out.1.1, RALL.out.1.2, RALL.out.2.1, RALL.out.2.2]) rfl ⟨rfl, by repeat (first | with_reducible exact own_refl _ | with_reducible assumption | with_reducible apply own_alloc | with_reducible apply own_drewN | with_reducible apply own_drew | ((with_reducible refine own_setCell ?_ ?_ _); rotate_left; focus (first | (simp; done) | (simp; omega))) | (with_reducible (refine own_trans ?_ (by assumption))))⟩
      | exact bodyPost_ret (v := .tuple #[(.agg #[.int .i64 r.b, .int .i64 r.d]), (.agg #[.int .i64 r.a, .int .i64 r.c]), (.int .i64 0)]) (by simp [results, Tryd.results14, go_sem, RBLL.out.1.1, RBLL.out.1.2, RBLL.out.2.1, RBLL.out.2.2]) rfl ⟨rfl, by repeat (first | with_reducible exact own_refl _ | with_reducible assumption | with_reducible apply own_alloc | with_reducible apply own_drewN | with_reducible apply own_drew | ((with_reducible refine own_setCell ?_ ?_ _); rotate_left; focus (first | (simp; done) | (simp; omega))) | (with_reducible (refine own_trans ?_ (by assumption))))⟩
end Go.Proofs.YtpmifhjbngocmaaDoor

/- The walk of the law FnExactParentsOf. -/
namespace Go.Proofs.YtpmifhjbngocmaaDoor
open Go.ChangeShapes Go.WideShapes Go.ChangeAt Go.RowKit

set_option maxHeartbeats 2000000 in
theorem lawParentsOf_of (p q : Int) (x0 x1 y0 y1 k : Int) (ea : Addr)
    (hs : ∀ w : World, Calls Tryd.prog 14 #[(.agg #[.int .i64 p, .int .i64 q])] w fun e w' => e = .returned (.tuple #[(.agg #[.int .i64 x0, .int .i64 x1]), (.agg #[.int .i64 y0, .int .i64 y1]), (.int .i64 k)]) ∧ Below w.heap.size w w')
    (hi : ∀ w : World, Er w ea → Idn w → Calls Tryd.prog 16 #[(.agg #[.int .i64 p, .int .i64 q])] w fun e w' => e = .returned (.tuple #[(.agg #[.int .i64 x0, .int .i64 x1]), (.agg #[.int .i64 y0, .int .i64 y1]), (.int .i64 k)]) ∧ Below w.heap.size w w') (w : World) (hE : Er w ea) (hid : Idn w) :
    Calls Tryd.prog 5 #[(.agg #[.int .i64 p, .int .i64 q])] w fun e w' => e = .returned (.bool true) ∧ Below w.heap.size w w' := by
  have HS := Lib.hid hs
  have HI := Lib.hid hi
  clear hs hi
  go_enter Tryd.func5, Tryd.ntmps5
  go_wp2_with fail
  refine (toFraction_any _ _ _).mono ?_
  rintro e w1 ⟨rfl, hb1⟩
  have T1 : Below w.heap.size w w1 := by repeat (first | with_reducible exact own_refl _ | with_reducible assumption | with_reducible apply own_alloc | with_reducible apply own_drewN | with_reducible apply own_drew | ((with_reducible refine own_setCell ?_ ?_ _); rotate_left; focus (first | (simp; done) | (simp; omega))) | (with_reducible (refine own_trans ?_ (by assumption))))
  have A1 : Box w1 w.heap.size [.int .i64 p, .int .i64 q] := (Box.new _ _ _).below hb1
  obtain ⟨_, _, _, _, _⟩ := A1.two
  go_wp2_with fail
  refine (HS.out _).mono ?_
  rintro e w2 ⟨rfl, hb2⟩
  have T2 := own_trans T1 hb2
  have A2 := (A1.below hb2).alloc (.cells #[.int .i64 x0, .int .i64 x1] 31) |>.alloc (.cells #[.int .i64 y0, .int .i64 y1] 31)
  have X2 : Box ((w2.alloc (.cells #[.int .i64 x0, .int .i64 x1] 31)).alloc (.cells #[.int .i64 y0, .int .i64 y1] 31)) w2.heap.size [.int .i64 x0, .int .i64 x1] := Box.alloc (Box.new _ _ _) _
  have Y2 : Box ((w2.alloc (.cells #[.int .i64 x0, .int .i64 x1] 31)).alloc (.cells #[.int .i64 y0, .int .i64 y1] 31)) (w2.heap.size + 1) [.int .i64 y0, .int .i64 y1] := Box.newAt (by simp) _ _
  have TW : Below w.heap.size w ((w2.alloc (.cells #[.int .i64 x0, .int .i64 x1] 31)).alloc (.cells #[.int .i64 y0, .int .i64 y1] 31)) := own_alloc (own_alloc T2 _) _
  obtain ⟨_, _, _, _, _⟩ := A2.two
  go_wp2_with fail
  refine (toFraction_any _ _ _).mono ?_
  rintro e w3 ⟨rfl, hb3⟩
  have X3 := X2.below hb3
  have Y3 := Y2.below hb3
  have T3 := own_trans TW hb3
  go_wp2_with fail
  refine (HI.out _ (hE.below T3) (Rd.below hid T3)).mono ?_
  rintro e w4 ⟨rfl, hb4⟩
  have X4 := ((X3.below hb4).alloc (.cells #[.int .i64 x0, .int .i64 x1] 31)).alloc (.cells #[.int .i64 y0, .int .i64 y1] 31)
  have Y4 := ((Y3.below hb4).alloc (.cells #[.int .i64 x0, .int .i64 x1] 31)).alloc (.cells #[.int .i64 y0, .int .i64 y1] 31)
  have P4 : Box ((w4.alloc (.cells #[.int .i64 x0, .int .i64 x1] 31)).alloc (.cells #[.int .i64 y0, .int .i64 y1] 31)) w4.heap.size [.int .i64 x0, .int .i64 x1] := Box.alloc (Box.new _ _ _) _
  have Q4 : Box ((w4.alloc (.cells #[.int .i64 x0, .int .i64 x1] 31)).alloc (.cells #[.int .i64 y0, .int .i64 y1] 31)) (w4.heap.size + 1) [.int .i64 y0, .int .i64 y1] := Box.newAt (by simp) _ _
  have T4 := own_alloc (own_alloc (own_trans T3 hb4) (.cells #[.int .i64 x0, .int .i64 x1] 31)) (.cells #[.int .i64 y0, .int .i64 y1] 31)
  obtain ⟨_, _, _, _, _⟩ := X4.two
  obtain ⟨_, _, _, _, _⟩ := Y4.two
  obtain ⟨_, _, _, _, _⟩ := P4.two
  obtain ⟨_, _, _, _, _⟩ := Q4.two
  go_wp2_with fail
  refine (eqFraction_same _ _ _).mono ?_
  rintro e w5 ⟨rfl, hb5⟩
  obtain ⟨_, _, _, _, _⟩ := (Y4.below hb5).two
  obtain ⟨_, _, _, _, _⟩ := (Q4.below hb5).two
  go_wp2_with fail
  refine (eqFraction_same _ _ _).mono ?_
  rintro e w6 ⟨rfl, hb6⟩
  go_wp2
  go_ret
  exact ⟨rfl, own_trans (own_trans T4 hb5) hb6⟩

theorem okRun_get {xs : List Int} : ∀ {i : Nat}, okFrom i xs = true → ∀ k, k < xs.length → 0 ≤ xs.getD k 0 ∧ xs.getD k 0 ≤ 1000000000 ∧ (i + k = 0 ∨ xs.getD k 0 ≠ 0) := by
  induction xs with
  | nil => intro i _ k hk; simp at hk
  | cons x r ih =>
    intro i h k hk
    simp only [okFrom, Bool.and_eq_true] at h
    cases k with
    | zero => simpa [List.getD, okRun] using h.1
    | succ k =>
      have := ih h.2 k (by simpa using hk)
      rw [show i + 1 + k = i + (k + 1) by omega] at this
      simpa [List.getD] using this
theorem allW_far {p q : Int} (h1 : 0 < p) (h2 : 0 ≤ q) (h : 10000 < p ∨ 10000 < q) : allW [p, q] 10000 = false := by
  simp [allW, inW]; omega
theorem allW_near {p q : Int} (h1 : 0 < p) (h2 : 0 ≤ q) (hp : p ≤ 10000) (hq : q ≤ 10000) : allW [p, q] 10000 = true := by
  simp [allW, inW]; omega
set_option maxRecDepth 100000 in
set_option maxHeartbeats 1000000 in
theorem lawParentsOf_walk (p q : Int) (_ : I64 p) (_ : I64 q) (w : World) (ea : Addr) (hE : Er w ea) (hid : Idn w) :
    Calls Tryd.prog 5 #[(.agg #[.int .i64 p, .int .i64 q])] w fun e w' => e = .returned (.bool true) ∧ Below w.heap.size w w' := by
  rcases h : isF p q with _ | _
  · exact lawParentsOf_of p q 0 0 0 0 1 ea (fun w => specPar_code p q 1 rfl (fun w => given_is p q 1 (.inl ⟨h, rfl⟩) w) w) (fun w hE _ => implPar_no p q h ea w hE) w hE hid
  obtain ⟨ep, eq, hq0, hgcd, _⟩ := isF_ent h
  by_cases hs : p ≤ 0 ∨ q = 0
  · exact lawParentsOf_of p q 0 0 0 0 5 ea (fun w => specPar_code p q 5 rfl (fun w => given_is p q 5 (.inr (.inl ⟨h, hs, rfl⟩)) w) w)
      (fun w _ hi => implPar_ok p q Mat.zero 5 w hi (fun w0 g1 B _ => cloP_code p q 5 g1 rfl (fun w => rop_state p q h hs w) w0 B)) w hE hid
  have h1 : 0 < p := by omega
  have h2 : 0 < q := by omega
  have h2' : (q == 0) = false := by simp; omega
  by_cases hl : 10000 < p ∨ 10000 < q
  · exact lawParentsOf_of p q 0 0 0 0 3 ea (fun w => specPar_code p q 3 rfl (fun w => given_is p q 3 (.inr (.inr (.inl ⟨h, h1, h2', hl, rfl⟩))) w) w)
      (fun w _ hi => implPar_ok p q Mat.zero 3 w hi (fun w0 g1 B _ => cloP_code p q 3 g1 rfl (fun w => rop_limit p q h h1 h2' (allW_far h1 hq0 hl) w) w0 B)) w hE hid
  have h3 : p ≤ 10000 := by omega
  have h4 : q ≤ 10000 := by omega
  have hW := allW_near h1 hq0 h3 h4
  have hG : ∀ w, Calls Tryd.prog 33 #[(.agg #[.int .i64 p, .int .i64 q])] w fun e w' => e = .returned (.int .i64 0) ∧ Below w.heap.size w w' := fun w => given_is p q 0 (.inr (.inr (.inr ⟨h, h1, h2', h3, h4, rfl⟩))) w
  have key : ∀ r : Mat, Nn r → r.a + r.b = p → r.c + r.d = q → (∀ w0 g1, Box w0 g1 [.int .i64 p, .int .i64 q] → Idn w0 → Calls Tryd.prog 36 #[.pointer (some ⟨g1, 0, none⟩)] w0 fun e w' => e = .returned (.tuple #[(.agg #[.int .i64 r.a, .int .i64 r.b, .int .i64 r.c, .int .i64 r.d]), (.int .i64 0)]) ∧ Below w0.heap.size w0 w') →
      Calls Tryd.prog 5 #[(.agg #[.int .i64 p, .int .i64 q])] w fun e w' => e = .returned (.bool true) ∧ Below w.heap.size w w' := by
    intro r hr hr1 hr2 hclo
    refine lawParentsOf_of p q r.b r.d r.a r.c 0 ea (fun w => specPar_ok p q r hG (fun w => ?_) w) (fun w _ hi => implPar_ok p q r 0 w hi hclo) w hE hid
    refine (specWalk_any p q (by omega) h3 (by omega) h4 hgcd w).mono ?_
    rintro e w' ⟨m, v, done, rfl, HF, _, hb⟩
    obtain rfl : m = r := nn_unique HF.out.1 hr (by rw [HF.out.2.1, hr1]) (by rw [HF.out.2.2.1, hr2])
    exact ⟨v, rfl, hb⟩
  by_cases hone : p = 1 ∧ q = 1
  · obtain ⟨rfl, rfl⟩ := hone
    refine key Mat.one ⟨by simp [Mat.one], by simp [Mat.one], by simp [Mat.one], by simp [Mat.one], by simp [Mat.one]⟩ (by simp [Mat.one]) (by simp [Mat.one]) (fun w0 g1 B hi => ?_)
    exact cloP_one 1 1 g1 (fun w => rop_zero 1 1 [1] 0 0 h (by omega) (by omega) rfl hW (by decide) rfl (by decide) (by omega) (by omega) rfl (by omega) w) w0 B hi
  · obtain ⟨xs, hx⟩ : ∃ xs, cfL q.natAbs p q = xs := ⟨_, rfl⟩
    obtain ⟨r1, r2, r3⟩ := cf_runs q.natAbs p q h2 (Nat.le_refl _) h1 (by omega) (by omega) hgcd hone 0 (.inl rfl)
    have hlen := cf_short 14 q.natAbs p q hq0 (by omega)
    rw [hx] at r1 r2 r3 hlen
    obtain ⟨n, hn⟩ : ∃ n, xs.length = n + 1 := ⟨xs.length - 1, by omega⟩
    obtain ⟨y, hy⟩ : ∃ y, xs.getD n 0 - 1 = y := ⟨_, rfl⟩
    have hset : decL xs = xs.set n y := by rw [decL_set xs r3, hn, Nat.add_sub_cancel, hy]
    obtain ⟨z, z1, z2, z3, z4⟩ := prod_vcol 10000 (by omega) (decL xs) 0 Mat.one r1 ⟨by simp [Mat.one], by simp [Mat.one], by simp [Mat.one], by simp [Mat.one], by simp [Mat.one]⟩ (by rw [r2]; simp [Mat.one]; omega) (by rw [r2]; simp [Mat.one]; omega)
    rw [r2] at z3 z4
    have z3' : z.a + z.b = p := by rw [z3]; simp [Mat.one]
    have z4' : z.c + z.d = q := by rw [z4]; simp [Mat.one]
    have hne0 : decL xs ≠ [0] := by
      intro he
      rw [he] at r2
      simp [vcol] at r2
      omega
    obtain ⟨y1, y2, y3⟩ := okRun_get r1 n (by rw [decL_len, hn]; omega)
    have hgy : (decL xs).getD n 0 = y := by rw [hset]; simp [List.getD, hn]
    rw [hgy] at y1 y2 y3
    have hy0 : y ≠ 0 := by
      rcases y3 with hn0 | h
      · intro hy0
        apply hne0
        have hn0' : n = 0 := by omega
        subst hn0' hy0
        obtain ⟨x0, hx0⟩ : ∃ x0, xs = [x0] := by
          match xs, hn with
          | [x0], _ => exact ⟨x0, rfl⟩
        rw [hset, hx0]; rfl
      · exact h
    have hrun : runsOk (xs.set n y) = true := by
      rw [← hset]; unfold runsOk
      rw [r1, decide_eq_true hne0, decide_eq_true (by rw [decL_len]; omega)]; rfl
    have hPA : PA (runMats 0 (xs.set n y)) z 0 := by
      rw [← hset]
      exact .inr (.inr ⟨runMats_is _ 0 r1, z1, rfl⟩)
    exact key z z2 z3' z4' (fun w0 g1 B hi => cloP_some p q (xs.set n y) z g1 (by simp; omega) (by simp; omega) hrun hPA
      (fun w => rop_some p q xs n y h h1 h2 h2' hW hx hn hy (by omega) (by omega) (by simpa using hy0) (by omega) w) w0 B hi)
end Go.Proofs.YtpmifhjbngocmaaDoor

namespace Go.Proofs.YtpmifhjbngocmaaDoor.fnExactParentsOf
open Go.ChangeShapes Go.WideShapes Go.ChangeAt Go.RowKit
theorem trodVars_len {H : Type} {enc : TypeId × Value → H} {P : Program} {W : World} {sp : Nat → Bool} : ∀ {ns : List String} {gs : List (DataW H)} {ps : List MemPlace}, DataW.TrodVars enc P W sp ns gs ps → gs.length = ns.length
  | [], [], _, _ => rfl
  | [], _ :: _, _, h => h.elim
  | _ :: _, [], _, h => h.elim
  | _ :: _, _ :: _, _, h => by
    obtain ⟨_, _, _, _, _, q, _, _, _, _, hs, _⟩ := h
    simp [trodVars_len hs]
set_option maxRecDepth 1000000 in
theorem contract (H : Type) (enc : TypeId × Value → H) (W : World) (base : Nat) (args : Array Value) (ds gs : List (DataW H)) (before : List MemPlace)
    (hval : ∀ (j : Nat) t v, Tryd.f5.params[j]? = some t → args[j]? = some v → Value.okWide Tryd.prog W .any base t v)
    (hW : DataW.Whole enc Tryd.prog Tryd.f5.params.toList Rows.fnExactParentsOfSpec.vars false W args.toList ds gs before) (hL : laidMetH Tryd.prog Rows.fnExactParentsOfRow.laid W) :
    Calls Tryd.prog 5 args W fun e W' => ∃ v, e = .returned v ∧ Rows.fnExactParentsOfSpec.post enc Tryd.prog Tryd.f5 false true false false W args v W' := by
  have hW' := hW
  obtain ⟨p, q, hA0, hV, rfl, hfz, hnd⟩ := hW
  have hA : DataW.TrodAll enc Tryd.prog W 0 (fun _ => true) true Tryd.f5.params.toList args.toList ds p := hA0
  rw [Tryd.params5] at hA hval
  obtain ⟨v0, vs0, d0, ds0, p0, q0, hargs, rfl, rfl, h0, r0⟩ := trodAll_cons hA
  obtain ⟨rfl, rfl, rfl⟩ := trodAll_nil r0
  obtain rfl : args = #[v0] := by cases args; simp_all
  obtain ⟨g0, g1, hg0⟩ : ∃ g0 g1, gs = [g0, g1] := by
    have hlen : gs.length = 2 := trodVars_len hV
    match gs, hlen with
    | [g0, g1], _ => exact ⟨_, _, rfl⟩
  subst hg0
  obtain ⟨a0, b0, rfl, rfl, rfl, wa0, wb0⟩ := open2 (hval 0 30 v0 rfl rfl) h0
  clear hA0
  simp only [List.append_nil] at hW'
  obtain ⟨ea0, L0⟩ := er_of (show laidMetH Tryd.prog [("loop.example/g01380/impl.errNoFraction", Rows.laid_loop_example_g01380_impl_errNoFraction)] W from laidMetH.filter (fun x => x.1 == "loop.example/g01380/impl.errNoFraction") hL)
  have L1 := idn_of (show laidMetH Tryd.prog [("loop.example/g01380/impl.identity", Rows.laid_loop_example_g01380_impl_identity)] W from laidMetH.filter (fun x => x.1 == "loop.example/g01380/impl.identity") hL)
  refine (lawParentsOf_walk a0 b0 (i64_of_wf wa0) (i64_of_wf wb0) W ea0 L0 L1).mono fun e W' ⟨he, hg⟩ => ?_
  subst he
  exact ⟨_, rfl, post_vars (pa := []) (pv := q) hW' (fun _ _ _ => trodAll_cons_mk (shut_bool Tryd.underlying4 _) trodAll_mk0) (fun sp _ => (trodAll_cons_mk (shut2 wa0 wb0) trodAll_mk0)) (Below.trodVars (by kernel_rfl) hg (by kernel_rfl) hV) rfl hg⟩

theorem laid_met (os : Os) : laidMet Tryd.prog Rows.fnExactParentsOfRow.laid ((World.laidAll Tryd.prog os Rows.fnExactParentsOfRow.laid).forCall (fun _ _ => 0) ⟨#[], #[.agg #[.int .i64 0, .int .i64 0]], []⟩).memory :=
  laidMet_laidAll _ (by kernel_rfl) (by kernel_rfl)
theorem reads (os : Os) {H : Type} (enc : TypeId × Value → H) : ∃ x, DataW.whole enc Tryd.prog ((World.laidAll Tryd.prog os Rows.fnExactParentsOfRow.laid).forCall (fun _ _ => 0) ⟨#[], #[.agg #[.int .i64 0, .int .i64 0]], []⟩).memory Tryd.f5.params.toList Rows.fnExactParentsOfSpec.vars false #[(.agg #[.int .i64 0, .int .i64 0] : Value)].toList 8 = some x := by
  have h : (DataW.whole enc Tryd.prog ((World.laidAll Tryd.prog os Rows.fnExactParentsOfRow.laid).forCall (fun _ _ => 0) ⟨#[], #[.agg #[.int .i64 0, .int .i64 0]], []⟩).memory Tryd.f5.params.toList Rows.fnExactParentsOfSpec.vars false #[(.agg #[.int .i64 0, .int .i64 0] : Value)].toList 8).isSome = true := by kernel_rfl
  exact Option.isSome_iff_exists.1 h

set_option maxRecDepth 100000 in
theorem lifted (os : Os) (started : os.Started) (H : Type) (enc : TypeId × Value → H) (F : Stop.Interp) :
    ReturnsInHanded {} Tryd.checked os 5 .any ((OpenSpec.ofChange Rows.fnExactParentsOfSpec).preRow enc Tryd.prog Tryd.f5 Rows.fnExactParentsOfRow.domain false Rows.fnExactParentsOfRow.laid) (((OpenSpec.ofChange Rows.fnExactParentsOfSpec).at F).post enc Tryd.prog Tryd.f5 false true false false) := by
  obtain ⟨x, hx⟩ := reads os enc
  refine returnsInHanded_of_row (C := Tryd.checked) (s := OpenSpec.ofChange Rows.fnExactParentsOfSpec) own started (by kernel_rfl) Tryd.func5
    (witness_row_at (enc := enc) (C := Tryd.checked) false (World.laidAll Tryd.prog os Rows.fnExactParentsOfRow.laid) #[.agg #[.int .i64 0, .int .i64 0]] (World.laidAll_os _ _ _) (by kernel_rfl) (by kernel_rfl) (by kernel_rfl)
      (OpenSpec.preRow_of_cond 8 hx (by kernel_rfl) (fun k hk => by cases hk) (by kernel_rfl) (laid_met os))) ?_
  intro W base args ds gs before hval hW _ _ _ hL _ _
  exact contract H enc W base args ds gs before hval hW hL

theorem said : Rows.FnExactParentsOfSaid :=
  OpenClaim.holds_of_cond 5 Tryd.f5 rfl rfl rfl rfl rfl rfl rfl ⟨rfl, rfl, rfl, rfl, rfl⟩ rfl rfl rfl rfl rfl (by kernel_rfl) Tryd.func5 (by kernel_rfl)
    (of_decide_eq_true (by kernel_rfl)) (by unfold Func.isWrapper; first | (rw [if_pos (by decide +kernel)]; kernel_rfl) | (rw [if_neg (by decide +kernel)]; exact ⟨rfl, rfl⟩))
    (fun os started H enc _ F => by rw [OpenClaim.pre_eq_preRow]; exact lifted os started H enc F)

theorem plain (f : FuncId) (fn : Func) (hf : Tryd.pinned.checked.prog.funcNamed "loop.example/g01380/laws.FnExactParentsOf" = some f) (hfn : Tryd.pinned.checked.prog.funcs[f]? = some fn) :
    true = Tryd.pinned.checked.prog.looks [] ∧ ∀ (j : Nat) t, fn.params[j]? = some t → Tryd.pinned.checked.prog.wantsStandIn t = false := by
  obtain rfl : f = 5 := Option.some.inj ((show Tryd.prog.funcNamed "loop.example/g01380/laws.FnExactParentsOf" = some 5 by kernel_rfl).symm.trans hf) |>.symm
  obtain rfl : fn = Tryd.f5 := (Option.some.inj (Tryd.func5.symm.trans hfn)).symm
  refine ⟨by kernel_rfl, fun j t ht => ?_⟩
  rw [Tryd.params5] at ht
  have hm := Array.mem_of_getElem? ht
  simp only [List.mem_toArray, List.mem_cons, List.not_mem_nil, or_false] at hm
  subst hm
  exact (show Tryd.prog.wantsStandIn 30 = false by kernel_rfl)

theorem proved : Rows.FnExactParentsOfCardSaid :=
  Claim7.holds_tied_plain_at .later [] _ _ _ _ said (fun _ h => by cases h) (by kernel_rfl) (fun _ h => by cases h) fnExactParentsOf_row_tie rfl ⟨rfl, rfl⟩ (by kernel_rfl) rfl plain (by kernel_rfl)
end Go.Proofs.YtpmifhjbngocmaaDoor.fnExactParentsOf
