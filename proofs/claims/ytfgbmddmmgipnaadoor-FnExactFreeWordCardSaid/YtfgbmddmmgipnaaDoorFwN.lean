/- Free words: chains and runs. -/
import Derived.Test.YtfgbmddmmgipnaaDoorFwM
namespace Go.Proofs.YtfgbmddmmgipnaaDoor
open Go.ChangeShapes Go.WideShapes Go.ChangeAt Go.RowKit

theorem chL_ne (f : Nat) (a b c d : Int) : chL f a b c d ≠ [] := by
  cases f
  · simp [chL]
  · rw [chL]; split <;> simp
theorem mul_neg (m n : M4) : M4.mul m.neg n = (M4.mul m n).neg := by
  simp only [M4.mul, M4.neg, M4.mk.injEq]
  refine ⟨?_, ?_, ?_, ?_⟩ <;> grind
theorem mul_neg' (m n : M4) : M4.mul m n.neg = (M4.mul m n).neg := by
  simp only [M4.mul, M4.neg, M4.mk.injEq]
  refine ⟨?_, ?_, ?_, ?_⟩ <;> grind
/-- The word of a chain has the chain's matrix, but for the sign. -/
theorem goQ_mt (f : Nat) : ∀ (g : FW) (a b c d : Int), Det a b c d → c.natAbs ≤ f → Eqs (g.goQ (chL f a b c d)).mt (M4.mul g.mt ⟨a, b, c, d⟩) := by
  have zero : ∀ (f : Nat) (g : FW) (a b d : Int), Det a b 0 d → Eqs (g.goQ (chL f a b 0 d)).mt (M4.mul g.mt ⟨a, b, 0, d⟩) := by
    intro f g a b d h
    rw [ch_end.2]
    obtain ⟨hu, _⟩ := det_last h
    obtain ⟨_, _, _, _, e⟩ := h
    refine (step_mt g (a * b)).trans ?_
    rcases hu with rfl | rfl
    · obtain rfl : d = 1 := by omega
      refine .inl ?_
      simp only [mT, M4.mul, M4.mk.injEq]
      refine ⟨?_, ?_, ?_, ?_⟩ <;> grind
    · obtain rfl : d = -1 := by omega
      refine .inr ?_
      simp only [mT, M4.mul, M4.neg, M4.mk.injEq]
      refine ⟨?_, ?_, ?_, ?_⟩ <;> grind
  induction f with
  | zero =>
    intro g a b c d h hc
    obtain rfl : c = 0 := by omega
    exact zero 0 g a b d h
  | succ f ih =>
    intro g a b c d h hc
    by_cases h0 : c = 0
    · subst h0
      exact zero _ g a b d h
    · obtain ⟨_, h2, h3⟩ := det_next h h0
      rw [(ch_go h0).2, goQ_cons _ _ (chL_ne _ _ _ _ _)]
      refine (ih _ _ _ _ _ h2 (by omega)).trans ?_
      generalize chq a c = q
      have h1 : Eqs (g.step q).putS.mt (mS (mT g.mt q)) := (put_S _).trans (Eqs.congr mS_neg (step_mt g q))
      refine (Eqs.congr (f := fun m => M4.mul m _) (fun m => mul_neg m _) h1).trans (.inl ?_)
      simp only [mT, mS, M4.mul, M4.mk.injEq]
      refine ⟨?_, ?_, ?_, ?_⟩ <;> grind
theorem fr_mt {f : Nat} {a b c d : Int} (h : Det a b c d) (hc : c.natAbs ≤ f) : Eqs (frW (chL f a b c d)).mt ⟨a, b, c, d⟩ := by
  refine (goQ_mt f FW.one a b c d h hc).trans (.inl ?_)
  simp [FW.one, FW.mt, sE, Pm, M4.mul]

theorem chq_half {a c : Int} (hc : c ≠ 0) : 2 * (chq a c * c - a).natAbs ≤ c.natAbs := by
  have hf := fl_floor (x := 2 * a + c) (y := 2 * c) (by omega)
  have hq : fl (2 * a + c) (2 * c) = chq a c := rfl
  rw [hq] at hf
  generalize chq a c = q at hf ⊢
  have h2 : q * (2 * c) = 2 * (q * c) := by grind
  rw [h2] at hf
  omega
theorem chq_two {a c : Int} (hc : c ≠ 0) (h : 2 * c.natAbs ≤ a.natAbs) : 2 ≤ (chq a c).natAbs := by
  have h1 := chq_half (a := a) hc
  generalize chq a c = q at h1 ⊢
  rcases Nat.lt_or_ge q.natAbs 2 with h2 | h2
  · exfalso
    have h3 : (q * c).natAbs = q.natAbs * c.natAbs := Int.natAbs_mul q c
    have h4 : q.natAbs * c.natAbs ≤ 1 * c.natAbs := Nat.mul_le_mul_right _ (by omega)
    omega
  · exact h2
theorem chL_inn (f : Nat) : ∀ (a b c d : Int), 2 * c.natAbs ≤ a.natAbs → Inn (chL f a b c d) := by
  induction f with
  | zero => intro a b c d _; trivial
  | succ f ih =>
    intro a b c d h
    rw [chL]
    split
    · trivial
    · have h0 : c ≠ 0 := by assumption
      have h1 := ih c d (chq a c * c - a) (chq a c * d - b) (chq_half h0)
      have h2 := chq_two h0 h
      rcases hr : chL f c d (chq a c * c - a) (chq a c * d - b) with _ | ⟨x, r⟩
      · exact absurd hr (chL_ne _ _ _ _ _)
      · rw [hr] at h1
        exact ⟨h2, h1⟩
theorem chL_len2 (f : Nat) (a b c d : Int) : absS (chL f a b c d) ≤ (frW (chL f a b c d)).len + 2 := by
  cases f with
  | zero => exact fr_len _ _ trivial
  | succ f =>
    rw [chL]
    split
    · exact fr_len _ _ trivial
    · exact fr_len _ _ (chL_inn _ _ _ _ _ (chq_half (by assumption)))

/-- The matrix of pairs, the first one ahead. -/
def Pf : List Bool → M4
  | [] => ⟨1, 0, 0, 1⟩
  | true :: r => ⟨(Pf r).a + (Pf r).c, (Pf r).b + (Pf r).d, (Pf r).c, (Pf r).d⟩
  | false :: r => ⟨(Pf r).a, (Pf r).b, (Pf r).a + (Pf r).c, (Pf r).b + (Pf r).d⟩
theorem Pm_snoc (p : List Bool) (t : Bool) : Pm (p ++ [t]) = (if t then ⟨(Pm p).a + (Pm p).c, (Pm p).b + (Pm p).d, (Pm p).c, (Pm p).d⟩ else ⟨(Pm p).a, (Pm p).b, (Pm p).a + (Pm p).c, (Pm p).b + (Pm p).d⟩ : M4) := by
  induction p with
  | nil => cases t <;> rfl
  | cons x p ih =>
    cases x <;> cases t <;> simp only [List.cons_append, Pm, ih, if_true, Bool.false_eq_true, if_false, M4.mk.injEq] <;> refine ⟨?_, ?_, ?_, ?_⟩ <;> first | trivial | omega
theorem Pm_rev (l : List Bool) : Pm l.reverse = Pf l := by
  induction l with
  | nil => rfl
  | cons t l ih =>
    rw [List.reverse_cons, Pm_snoc, ih]
    cases t <;> rfl
theorem Pf_pos (l : List Bool) : 1 ≤ (Pf l).a ∧ 0 ≤ (Pf l).b ∧ 0 ≤ (Pf l).c ∧ 1 ≤ (Pf l).d ∧ (Pf l).a * (Pf l).d - (Pf l).b * (Pf l).c = 1 ∧ (l ≠ [] → 1 ≤ (Pf l).b + (Pf l).c) := by
  induction l with
  | nil => simp [Pf]
  | cons t l ih =>
    obtain ⟨h1, h2, h3, h4, h5, _⟩ := ih
    cases t
    · refine ⟨h1, h2, ?_, ?_, ?_, fun _ => ?_⟩ <;> simp only [Pf] <;> first | omega | grind
    · refine ⟨?_, ?_, h3, h4, ?_, fun _ => ?_⟩ <;> simp only [Pf] <;> first | omega | grind
theorem Pf_not (l : List Bool) : Pf (l.map (!·)) = ⟨(Pf l).d, (Pf l).c, (Pf l).b, (Pf l).a⟩ := by
  induction l with
  | nil => rfl
  | cons t l ih => cases t <;> simp only [List.map_cons, Bool.not_false, Bool.not_true, Pf, ih, M4.mk.injEq] <;> refine ⟨?_, ?_, ?_, ?_⟩ <;> first | trivial | omega
theorem Pf_reps (q : Nat) (l : List Bool) : Pf (List.replicate q true ++ l) = ⟨(Pf l).a + q * (Pf l).c, (Pf l).b + q * (Pf l).d, (Pf l).c, (Pf l).d⟩ := by
  induction q with
  | zero => simp
  | succ q ih =>
    rw [List.replicate_succ, List.cons_append, Pf, ih]
    simp only [M4.mk.injEq]
    refine ⟨?_, ?_, ?_, ?_⟩ <;> first | trivial | grind
theorem lead_true : ∀ l : List Bool, ∃ (q : Nat) (r : List Bool), l = List.replicate q true ++ r ∧ (r = [] ∨ ∃ s, r = false :: s)
  | [] => ⟨0, [], rfl, .inl rfl⟩
  | false :: s => ⟨0, _, rfl, .inr ⟨s, rfl⟩⟩
  | true :: s => by
    obtain ⟨q, r, h1, h2⟩ := lead_true s
    exact ⟨q + 1, r, by rw [h1, List.replicate_succ]; rfl, h2⟩
theorem flat_not (r : List Bool) (F S : List UInt8) : (r.map (!·)).flatMap (fun t => if t then S else F) = r.flatMap (fun t => if t then F else S) := by
  induction r with
  | nil => rfl
  | cons t r ih => cases t <;> simpa using ih
theorem flat_reps (q : Nat) (F S : List UInt8) : Lib.repeatL F q = (List.replicate q true).flatMap (fun t => if t then F else S) := by
  induction q with
  | zero => rfl
  | succ q ih => rw [Lib.repeatL, ih, List.replicate_succ, List.flatMap_cons]; rfl
/-- The runs of a matrix of pairs spell the pairs. -/
theorem runs_spell (f : Nat) : ∀ (l : List Bool) (F S : List UInt8), Pos (Pf l).a (Pf l).b (Pf l).c (Pf l).d → msr (Pf l).a (Pf l).b (Pf l).c (Pf l).d ≤ f →
    spellB F S (runsF f (Pf l).a (Pf l).b (Pf l).c (Pf l).d) = l.flatMap (fun t => if t then F else S) := by
  induction f with
  | zero => intro l F S hp hf; have := pos_msr hp; omega
  | succ f ih =>
    intro l F S hp hf
    by_cases hl : l = []
    · subst hl
      show spellB F S (runsF (f + 1) 1 0 0 1) = _
      rw [runsF_unit]; rfl
    · obtain ⟨_, _, _, _, _, h6⟩ := Pf_pos l
      have h6 := h6 hl
      have hn : ¬ ((Pf l).a = 1 ∧ (Pf l).b = 0 ∧ (Pf l).c = 0 ∧ (Pf l).d = 1) := by omega
      have h1 := pos_next hp
      have h2 := msr_next hp hn
      rw [runsF_go hn]
      obtain ⟨q, r, rfl, hr⟩ := lead_true l
      obtain ⟨p1, p2, p3, p4, p5, _⟩ := Pf_pos r
      have hbd : (Pf r).b < (Pf r).d := by
        rcases hr with rfl | ⟨s, rfl⟩
        · decide
        · obtain ⟨s1, s2, s3, s4, _⟩ := Pf_pos s
          show (Pf s).b < (Pf s).b + (Pf s).d
          omega
      have hq : ((Pf r).b + q * (Pf r).d) / (Pf r).d = q := by
        rw [Int.add_mul_ediv_right _ _ (by omega), Int.ediv_eq_zero_of_lt p2 hbd]; omega
      rw [Pf_reps] at h1 h2 hf ⊢
      simp only at h1 h2 hf ⊢
      rw [hq] at h1 h2 ⊢
      have e1 : (Pf r).b + q * (Pf r).d - q * (Pf r).d = (Pf r).b := by omega
      have e2 : (Pf r).a + q * (Pf r).c - q * (Pf r).c = (Pf r).a := by omega
      rw [e1, e2] at h1 h2 ⊢
      have h3 := ih (r.map (!·)) S F
      rw [Pf_not] at h3
      simp only at h3
      have h4 := h3 h1 (by omega)
      rw [spellB, h4, flat_not, List.flatMap_append, show (q : Int).toNat = q from by omega, flat_reps]
theorem spellB_len {F S : List UInt8} (hF : F.length = 1) (hS : S.length = 1) : ∀ {xs : List Int}, (∀ x ∈ xs, 0 ≤ x) → ((spellB F S xs).length : Int) = sumI xs ∧ ((spellB S F xs).length : Int) = sumI xs
  | [], _ => ⟨rfl, rfl⟩
  | n :: r, h => by
    obtain ⟨h1, h2⟩ := spellB_len hF hS (xs := r) fun x hx => h x (by simp [hx])
    have h3 := h n (by simp)
    simp only [spellB, sumI, List.length_append, Lib.repeatL_length, hF, hS]
    omega
/-- .. and are as many as the pairs. -/
theorem runs_sum {f : Nat} {l : List Bool} (hp : Pos (Pf l).a (Pf l).b (Pf l).c (Pf l).d) (hf : msr (Pf l).a (Pf l).b (Pf l).c (Pf l).d ≤ f) :
    sumI (runsF f (Pf l).a (Pf l).b (Pf l).c (Pf l).d) = l.length := by
  have h1 := runs_spell f l [85] [86] hp hf
  have h2 := (spellB_len (F := [85]) (S := [86]) rfl rfl (xs := runsF f (Pf l).a (Pf l).b (Pf l).c (Pf l).d) fun x hx => (runsF_all f hp x hx).1).1
  rw [h1] at h2
  rw [← h2]
  congr 1
  clear h1 h2 hp hf
  induction l with
  | nil => rfl
  | cons t l ih => cases t <;> simp only [List.flatMap_cons, List.length_append, List.length_cons, if_true, Bool.false_eq_true, if_false, ih, List.length_nil] <;> omega
end Go.Proofs.YtfgbmddmmgipnaaDoor
