/- The line of a level: mathematics. No program is walked here. -/
import Derived.Test.YtdcomnnpnhinfaaDoorNorS
namespace Go.Proofs.YtdcomnnpnhinfaaDoor

def okP (n c d : Int) : Bool := isP n c d && decide (nrm n c d = (c, d))
def rowL (n c : Int) : Nat → List (Int × Int)
  | 0 => []
  | k + 1 => if okP n c k = true then rowL n c k ++ [(c, (k : Int))] else rowL n c k
def lnL (n : Int) : Nat → List (Int × Int)
  | 0 => []
  | k + 1 => lnL n k ++ rowL n k n.toNat
/-- the line of a level -/
def ln (n : Int) : List (Int × Int) := lnL n n.toNat
theorem rowL_yes {n c d : Int} {k : Nat} (hk : (k : Int) = d) (h : okP n c d = true) : rowL n c (k + 1) = rowL n c k ++ [(c, d)] := by
  subst hk
  rw [rowL, if_pos h]
theorem rowL_no {n c d : Int} {k : Nat} (hk : (k : Int) = d) (h : okP n c d = false) : rowL n c (k + 1) = rowL n c k := by
  subst hk
  rw [rowL, if_neg (by rw [h]; simp)]
theorem rowL_len (n c : Int) : ∀ k : Nat, (rowL n c k).length ≤ k
  | 0 => Nat.le_refl _
  | k + 1 => by
    have := rowL_len n c k
    rw [rowL]
    split <;> simp <;> omega
theorem lnL_len (n : Int) : ∀ k : Nat, (lnL n k).length ≤ k * n.toNat
  | 0 => by simp [lnL]
  | k + 1 => by
    have h1 := lnL_len n k
    have h2 := rowL_len n k n.toNat
    rw [lnL, List.length_append, Nat.succ_mul]
    omega
theorem ln_len {n : Int} (h : n ≤ 60) : (ln n).length ≤ 3600 := by
  have h1 := lnL_len n n.toNat
  have h2 : n.toNat * n.toNat ≤ 60 * 60 := Nat.mul_le_mul (by omega) (by omega)
  unfold ln
  omega
theorem rowL_prefix (n c : Int) (j : Nat) : ∀ i : Nat, rowL n c j <+: rowL n c (j + i)
  | 0 => List.prefix_refl _
  | i + 1 => by
    refine (rowL_prefix n c j i).trans ?_
    rw [← Nat.add_assoc, rowL]
    split
    · exact List.prefix_append _ _
    · exact List.prefix_refl _
theorem lnL_prefix (n : Int) (j : Nat) : ∀ i : Nat, lnL n j <+: lnL n (j + i)
  | 0 => List.prefix_refl _
  | i + 1 => by
    refine (lnL_prefix n j i).trans ?_
    rw [← Nat.add_assoc, lnL]
    exact List.prefix_append _ _
theorem part_prefix {n : Int} {k j : Nat} (hk : k < n.toNat) (hj : j ≤ n.toNat) : lnL n k ++ rowL n k j <+: ln n := by
  have h1 : rowL n k j <+: rowL n k n.toNat := by
    have := rowL_prefix n k j (n.toNat - j)
    rwa [show j + (n.toNat - j) = n.toNat by omega] at this
  have h2 : lnL n (k + 1) <+: ln n := by
    have := lnL_prefix n (k + 1) (n.toNat - (k + 1))
    rwa [show k + 1 + (n.toNat - (k + 1)) = n.toNat by omega] at this
  refine List.IsPrefix.trans ?_ h2
  rw [lnL]
  exact (List.prefix_append_right_inj _).2 h1
/-- the lesser one of two pairs is no greater than each that was asked -/
theorem bst_min (n x y : Int) : ∀ (l : List Int) (q : Int × Int), lss2 q.1 q.2 (bst n x y l q).1 (bst n x y l q).2 = false ∧ ∀ u ∈ l, lss2 (u * x % n) (u * y % n) (bst n x y l q).1 (bst n x y l q).2 = false
  | [], q => ⟨by simp [bst, lss2], fun u h => by simp at h⟩
  | v :: l, q => by
    obtain ⟨h1, h2⟩ := bst_min n x y l (stp n x y v q)
    have e : bst n x y (v :: l) q = bst n x y l (stp n x y v q) := rfl
    rw [e]
    generalize bst n x y l (stp n x y v q) = r at *
    unfold stp at h1
    by_cases hl : lss2 (v * x % n) (v * y % n) q.1 q.2 = true
    · rw [if_pos hl] at h1
      refine ⟨?_, fun u hu => ?_⟩
      · simp [lss2] at h1 hl ⊢
        omega
      · rcases List.mem_cons.1 hu with rfl | hu
        · exact h1
        · exact h2 u hu
    · rw [if_neg hl] at h1
      refine ⟨h1, fun u hu => ?_⟩
      rcases List.mem_cons.1 hu with rfl | hu
      · simp [lss2] at h1 hl ⊢
        omega
      · exact h2 u hu

def anyU (n c : Nat) : Nat → Bool
  | 0 => false
  | k + 1 => (Nat.beq (Nat.gcd (k + 1) n) 1 && Nat.blt ((k + 1) * c % n) c) || anyU n c k
def allC (n : Nat) : Nat → Bool
  | 0 => true
  | c + 1 => (Nat.beq (n % (c + 1)) 0 || anyU n (c + 1) n) && allC n c
def allLv : Nat → Bool
  | 0 => true
  | n + 1 => allC (n + 1) n && allLv n
set_option maxRecDepth 100000 in
theorem all_lv : allLv 60 = true := by decide +kernel
theorem allLv_at : ∀ (m : Nat), allLv m = true → ∀ n, n < m → allC (n + 1) n = true
  | 0, _, n, h => by omega
  | m + 1, h, n, hn => by
    rw [allLv, Bool.and_eq_true] at h
    by_cases e : n = m
    · rw [e]; exact h.1
    · exact allLv_at m h.2 n (by omega)
theorem allC_at (n : Nat) : ∀ (m : Nat), allC n m = true → ∀ c, c < m → n % (c + 1) = 0 ∨ anyU n (c + 1) n = true
  | 0, _, c, h => by omega
  | m + 1, h, c, hc => by
    rw [allC, Bool.and_eq_true] at h
    by_cases e : c = m
    · rw [e]
      simpa using h.1
    · exact allC_at n m h.2 c (by omega)
theorem anyU_cop (n c : Nat) : ∀ k : Nat, anyU n c k = true → ∃ u ∈ cop (n : Int) k, u * (c : Int) % n < c
  | 0, h => by simp [anyU] at h
  | k + 1, h => by
    rw [anyU, Bool.or_eq_true, Bool.and_eq_true] at h
    rcases h with ⟨h1, h2⟩ | h
    · have e : Int.gcd ((k : Int) + 1) n = 1 := by
        rw [show ((k : Int) + 1) = ((k + 1 : Nat) : Int) by omega]
        exact Nat.eq_of_beq_eq_true h1
      refine ⟨(k : Int) + 1, by rw [cop, if_pos e]; simp, ?_⟩
      have h3 : (k + 1) * c % n < c := by simp [Nat.blt] at h2; omega
      have := Int.ofNat_lt.2 h3
      simpa using this
    · obtain ⟨u, hu, hl⟩ := anyU_cop n c k h
      refine ⟨u, ?_, hl⟩
      rw [cop]
      split
      · simp [hu]
      · exact hu
/-- no normal pair has a first number that is neither 0 nor a divisor of the level -/
theorem okP_skip {n c : Int} (h1 : 1 ≤ n) (h2 : n ≤ 60) (c1 : 0 < c) (c2 : c < n) (h : ¬ n % c = 0) (d : Int) : okP n c d = false := by
  obtain ⟨N, rfl⟩ : ∃ N : Nat, n = (N : Int) := ⟨n.toNat, by omega⟩
  obtain ⟨C, rfl⟩ : ∃ C : Nat, c = (C : Int) := ⟨c.toNat, by omega⟩
  have hA := allC_at N (N - 1) (by have := allLv_at 60 all_lv (N - 1) (by omega); rwa [show N - 1 + 1 = N by omega] at this) (C - 1) (by omega)
  rw [show C - 1 + 1 = C by omega] at hA
  rcases hA with hA | hA
  · exact absurd (by omega) h
  obtain ⟨u, hu, hl⟩ := anyU_cop N C N hA
  have hm := (bst_min (N : Int) C d (cop (N : Int) N) ((C : Int), d)).2 u hu
  unfold okP
  rw [Bool.and_eq_false_iff]
  right
  refine decide_eq_false fun e => ?_
  unfold nrm at e
  rw [show ((N : Int)).toNat = N by omega] at e
  rw [e] at hm
  simp [lss2] at hm
  omega
theorem rowL_skip {n c : Int} (h1 : 1 ≤ n) (h2 : n ≤ 60) (c1 : 0 < c) (c2 : c < n) (h : ¬ n % c = 0) : ∀ k : Nat, rowL n c k = []
  | 0 => rfl
  | k + 1 => by rw [rowL_no rfl (okP_skip h1 h2 c1 c2 h k), rowL_skip h1 h2 c1 c2 h k]
end Go.Proofs.YtdcomnnpnhinfaaDoor
