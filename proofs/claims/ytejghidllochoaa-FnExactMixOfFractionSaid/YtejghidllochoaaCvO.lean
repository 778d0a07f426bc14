/- Convergents of a fraction are no greater than it: mathematics. -/
import Derived.Test.YtejghidllochoaaCvS
import Derived.Test.YtejghidllochoaaCf
namespace Go.Proofs.Ytejghidllochoaa
open Go.ChangeShapes Go.WideShapes Go.ChangeAt Go.RowKit

/-- The convergents from two on. -/
def cvF : Int × Int → Int × Int → List Int → List (Int × Int)
  | _, _, [] => []
  | b, f, x :: r => stepC b f x :: cvF f (stepC b f x) r
def cstF (s : (Int × Int) × (Int × Int)) (xs : List Int) : (Int × Int) × (Int × Int) := xs.foldl (fun s x => (s.2, stepC s.1 s.2 x)) s
theorem cvF_snoc : ∀ (xs : List Int) (b f : Int × Int) (x : Int), cvF b f (xs ++ [x]) = cvF b f xs ++ [(cstF (b, f) (xs ++ [x])).2]
  | [], b, f, x => rfl
  | y :: r, b, f, x => by
    show stepC b f y :: cvF f (stepC b f y) (r ++ [x]) = stepC b f y :: (cvF f (stepC b f y) r ++ _)
    rw [cvF_snoc r]
    rfl
theorem snoc_ind {p : List Int → Prop} (h0 : p []) (h1 : ∀ xs x, p xs → p (xs ++ [x])) : ∀ xs, p xs := by
  intro xs
  rw [← List.reverse_reverse xs]
  induction xs.reverse with
  | nil => exact h0
  | cons x r ih => rw [List.reverse_cons]; exact h1 _ _ ih
theorem cvs_cvF (xs : List Int) : cvs xs = cvF (0, 1) (1, 0) xs := by
  refine snoc_ind (p := fun xs => cvs xs = cvF (0, 1) (1, 0) xs) rfl (fun xs x ih => ?_) xs
  rw [cvs_snoc, cvF_snoc, ih]
  rfl
theorem stepC_in {b f : Int × Int} {x y0 y1 : Int} (h0 : x * f.1 + b.1 = y0) (h1 : x * f.2 + b.2 = y1) (hx : Ent x) (hf0 : Ent f.1) (hf1 : Ent f.2) (hb0 : Ent b.1) (hb1 : Ent b.2) : stepC b f x = (y0, y1) := by
  have m : ∀ {u v : Int}, Ent u → Ent v → -1000000000000000000 ≤ u * v ∧ u * v ≤ 1000000000000000000 := fun {u v} hu hv => by
    have h1 : (u * v).natAbs ≤ 1000000000 * 1000000000 := by
      rw [Int.natAbs_mul]
      exact Nat.mul_le_mul (by unfold Ent at hu; omega) (by unfold Ent at hv; omega)
    omega
  have e0 := m hx hf0
  have e1 := m hx hf1
  unfold Ent at *
  unfold stepC
  rw [IntWalk.wrap64_in (x * f.1) (by omega), IntWalk.wrap64_in (x * f.2) (by omega), IntWalk.wrap64_in _ (by omega), IntWalk.wrap64_in _ (by omega), h0, h1]
/-- Of two numbers with like signs, neither is beyond what they make. -/
theorem like_bd {u v s t p : Int} (h : u * s + v * t = p) (hs : 1 ≤ s) (ht : 0 ≤ t) (hsg : (0 ≤ u ∧ 0 ≤ v) ∨ (u ≤ 0 ∧ v ≤ 0)) (hp : Ent p) : Ent u := by
  unfold Ent at *
  rcases hsg with ⟨h1, h2⟩ | ⟨h1, h2⟩
  · have e1 := Int.mul_le_mul_of_nonneg_left hs h1
    have e2 := Int.mul_nonneg h2 ht
    omega
  · have e1 := Int.mul_le_mul_of_nonneg_left hs (show 0 ≤ -u by omega)
    have e2 := Int.mul_nonneg (show 0 ≤ -v by omega) ht
    simp only [Int.neg_mul, Int.mul_one] at e1 e2
    omega
theorem cv_run : ∀ (F : Nat) (p q x y : Int) (b f : Int × Int), Ent p → Ent q → Ent x → Ent y → 0 ≤ x → 0 ≤ y → Ent f.1 → Ent f.2 → Ent b.1 → Ent b.2 →
    f.1 * x + b.1 * y = p → f.2 * x + b.2 * y = q → 0 ≤ f.2 → 0 ≤ b.2 → ((0 ≤ f.1 ∧ 0 ≤ b.1) ∨ (f.1 ≤ 0 ∧ b.1 ≤ 0)) → (cvF b f (cfL F x y)).all okQ = true := by
  intro F
  induction F with
  | zero => intros; rfl
  | succ F ih =>
    intro p q x y b f ep eq ex ey hx hy ef0 ef1 eb0 eb1 h0 h1 hf hb hs
    rcases (show y = 0 ∨ 0 < y by omega) with hy0 | hy0
    · subst hy0; rw [cf_zero]; rfl
    have e := Int.mul_ediv_add_emod x y
    rw [Int.mul_comm] at e
    have r1 := Int.emod_nonneg x (show y ≠ 0 by omega)
    have r2 := Int.emod_lt_of_pos x hy0
    have n0 : 0 ≤ x / y := Int.ediv_nonneg hx hy
    have n1 : x / y ≤ x := Int.ediv_le_self _ hx
    rw [cfL, if_neg (by omega), fl_pos hy0]
    have hr : x - x / y * y = x % y := by omega
    rw [hr]
    generalize x / y = n at *
    generalize x % y = r at *
    have hn : Ent n := by unfold Ent at *; omega
    obtain ⟨y0, hy0'⟩ : ∃ y0, n * f.1 + b.1 = y0 := ⟨_, rfl⟩
    obtain ⟨y1, hy1'⟩ : ∃ y1, n * f.2 + b.2 = y1 := ⟨_, rfl⟩
    have k0 : y0 * y + f.1 * r = p := by rw [← h0, ← hy0', ← e]; grind
    have k1 : y1 * y + f.2 * r = q := by rw [← h1, ← hy1', ← e]; grind
    have s1 : 0 ≤ y1 := by have := Int.mul_nonneg n0 hf; omega
    have s0 : (0 ≤ y0 ∧ 0 ≤ f.1) ∨ (y0 ≤ 0 ∧ f.1 ≤ 0) := by
      rcases hs with ⟨h1, h2⟩ | ⟨h1, h2⟩
      · have := Int.mul_nonneg n0 h1; exact .inl ⟨by omega, h1⟩
      · have := Int.mul_nonneg n0 (show 0 ≤ -f.1 by omega)
        rw [Int.mul_neg] at this
        exact .inr ⟨by omega, h1⟩
    have b0 := like_bd k0 (by omega) r1 s0 ep
    have b1 := like_bd k1 (by omega) r1 (.inl ⟨s1, hf⟩) eq
    have hst : stepC b f n = (y0, y1) := stepC_in hy0' hy1' hn ef0 ef1 eb0 eb1
    rw [cvF, hst]
    refine List.all_eq_true.2 fun z hz => ?_
    rcases List.mem_cons.1 hz with rfl | hz
    · simpa [okQ, inW, Ent] using And.intro b0 b1
    · exact List.all_eq_true.1 (ih p q y r f (y0, y1) ep eq ey (by unfold Ent at *; omega) (by omega) r1 b0 b1 ef0 ef1 k0 k1 s1 hf s0) z hz
theorem cv_fine (F : Nat) (p q : Int) (ep : Ent p) (eq : Ent q) (hq : 0 ≤ q) : (cvs (cfL F p q)).all okQ = true := by
  rw [cvs_cvF]
  rcases Int.lt_or_le p 0 with hp | hp
  · cases F with
    | zero => rfl
    | succ F =>
      rcases (show q = 0 ∨ 0 < q by omega) with h | h
      · subst h; rw [cf_zero]; rfl
      have e := Int.mul_ediv_add_emod p q
      rw [Int.mul_comm] at e
      have r1 := Int.emod_nonneg p (show q ≠ 0 by omega)
      have r2 := Int.emod_lt_of_pos p h
      have n0 : p / q < 0 := Int.ediv_neg_of_neg_of_pos hp h
      have n1 : p ≤ p / q := by
        rw [Int.le_ediv_iff_mul_le h]
        have := Int.mul_le_mul_of_nonneg_left (show 1 ≤ q by omega) (show 0 ≤ -p by omega)
        simp only [Int.neg_mul, Int.mul_one] at this
        omega
      rw [cfL, if_neg (by omega), fl_pos h]
      have hr : p - p / q * q = p % q := by omega
      rw [hr]
      generalize p / q = n at *
      generalize p % q = r at *
      have en : Ent n := by unfold Ent at *; omega
      have hst : stepC (0, 1) (1, 0) n = (n, 1) := stepC_in (by simp) (by simp) en (by simp [Ent]) (by simp [Ent]) (by simp [Ent]) (by simp [Ent])
      rw [cvF, hst]
      refine List.all_eq_true.2 fun z hz => ?_
      rcases List.mem_cons.1 hz with rfl | hz
      · simpa [okQ, inW, Ent] using en
      refine (fun hall : (cvF (1, 0) (n, 1) (cfL F q r)).all okQ = true => List.all_eq_true.1 hall z hz) ?_
      clear hz
      cases F with
      | zero => rfl
      | succ F =>
        rcases (show r = 0 ∨ 0 < r by omega) with h2 | h2
        · subst h2; rw [cf_zero]; rfl
        have e' := Int.mul_ediv_add_emod q r
        rw [Int.mul_comm] at e'
        have t1 := Int.emod_nonneg q (show r ≠ 0 by omega)
        have t2 := Int.emod_lt_of_pos q h2
        have m0 : 1 ≤ q / r := by rw [Int.le_ediv_iff_mul_le h2]; omega
        have m1 : q / r ≤ q := Int.ediv_le_self _ hq
        rw [cfL, if_neg (by omega), fl_pos h2]
        have hr' : q - q / r * r = q % r := by omega
        rw [hr']
        generalize q / r = m at *
        generalize q % r = t at *
        have em : Ent m := by unfold Ent at *; omega
        have hneg : m * n + 1 ≤ 0 := by
          have := Int.mul_le_mul_of_nonneg_right m0 (show 0 ≤ -n by omega)
          simp only [Int.mul_neg, Int.one_mul] at this
          omega
        have k0 : (m * n + 1) * r + n * t = p := by rw [← e, ← e']; grind
        have k1 : m * r + 1 * t = q := by omega
        have b0 := like_bd k0 (by omega) t1 (.inr ⟨hneg, by omega⟩) ep
        have hst2 : stepC (1, 0) (n, 1) m = (m * n + 1, m) := stepC_in rfl (by simp) em en (by simp [Ent]) (by simp [Ent]) (by simp [Ent])
        rw [cvF, hst2]
        refine List.all_eq_true.2 fun z hz => ?_
        rcases List.mem_cons.1 hz with rfl | hz
        · simpa [okQ, inW, Ent] using And.intro b0 em
        · exact List.all_eq_true.1 (cv_run F p q r t (n, 1) (m * n + 1, m) ep eq (by unfold Ent at *; omega) (by unfold Ent at *; omega) (by omega) t1 b0 em en (by simp [Ent]) k0 k1 (by simp only; omega) (by simp) (.inr ⟨hneg, by simp only; omega⟩)) z hz
  · exact cv_run F p q p q (0, 1) (1, 0) ep eq ep eq hp hq (by simp [Ent]) (by simp [Ent]) (by simp [Ent]) (by simp [Ent]) (by simp) (by simp) (by simp) (by simp) (.inl ⟨by simp, by simp⟩)
end Go.Proofs.Ytejghidllochoaa
