/- Normal pairs lie in the line, each once: mathematics. -/
import Derived.Test.YtdcomnnpnhinfaaDoorLnM
namespace Go.Proofs.YtdcomnnpnhinfaaDoor

theorem cop_gcd (n : Int) : ∀ (k : Nat) (u : Int), u ∈ cop n k → 1 ≤ u ∧ u ≤ k ∧ Int.gcd u n = 1
  | 0, u, h => by simp [cop] at h
  | k + 1, u, h => by
    rw [cop] at h
    split at h
    · rename_i hg
      simp only [List.mem_append, List.mem_singleton] at h
      rcases h with h | rfl
      · obtain ⟨a, b, c⟩ := cop_gcd n k u h
        exact ⟨a, by omega, c⟩
      · exact ⟨by omega, by omega, hg⟩
    · obtain ⟨a, b, c⟩ := cop_gcd n k u h
      exact ⟨a, by omega, c⟩
theorem mem_cop (n : Int) : ∀ (k : Nat) (u : Int), 1 ≤ u → u ≤ k → Int.gcd u n = 1 → u ∈ cop n k
  | 0, u, h1, h2, _ => by omega
  | k + 1, u, h1, h2, hg => by
    rw [cop]
    by_cases e : u = (k : Int) + 1
    · subst e
      rw [if_pos hg]
      simp
    · have := mem_cop n k u h1 (by omega) hg
      split
      · simp [this]
      · exact this
theorem bst_mem (n x y : Int) : ∀ (l : List Int) (q : Int × Int), bst n x y l q = q ∨ ∃ u ∈ l, bst n x y l q = (u * x % n, u * y % n)
  | [], q => .inl rfl
  | v :: l, q => by
    have e : bst n x y (v :: l) q = bst n x y l (stp n x y v q) := rfl
    rw [e]
    rcases bst_mem n x y l (stp n x y v q) with h | ⟨u, hu, h⟩
    · rw [h]
      unfold stp
      split
      · exact .inr ⟨v, by simp, rfl⟩
      · exact .inl rfl
    · exact .inr ⟨u, by simp [hu], h⟩
theorem nrm_unit {n x y : Int} (_ : 1 ≤ n) (hx : 0 ≤ x ∧ x < n) (hy : 0 ≤ y ∧ y < n) : ∃ u, Int.gcd u n = 1 ∧ nrm n x y = (u * x % n, u * y % n) := by
  rcases bst_mem n x y (cop n n.toNat) (x, y) with h | ⟨u, hu, h⟩
  · refine ⟨1, by simp, ?_⟩
    unfold nrm
    rw [h, Int.one_mul, Int.one_mul, Int.emod_eq_of_lt hx.1 hx.2, Int.emod_eq_of_lt hy.1 hy.2]
  · exact ⟨u, (cop_gcd n _ u hu).2.2, h⟩
theorem nrm_rst {n x y : Int} (h1 : 1 ≤ n) (hx : 0 ≤ x ∧ x < n) (hy : 0 ≤ y ∧ y < n) : Rst2 n (nrm n x y) := bst_rst h1 _ _ ⟨hx.1, hx.2, hy.1, hy.2⟩
/-- no unit leads to a lesser pair than the normal one -/
theorem nrm_low {n x y : Int} (h1 : 1 ≤ n) (hx : 0 ≤ x ∧ x < n) (hy : 0 ≤ y ∧ y < n) {t : Int} (ht : Int.gcd t n = 1) : lss2 (t * x % n) (t * y % n) (nrm n x y).1 (nrm n x y).2 = false := by
  obtain ⟨hm0, hm⟩ := bst_min n x y (cop n n.toNat) (x, y)
  rcases (show n = 1 ∨ 2 ≤ n by omega) with rfl | h2
  · obtain ⟨a, b, c, d⟩ := nrm_rst (n := 1) (by omega) hx hy
    simp [lss2]
    omega
  · have hs := Int.emod_nonneg t (show n ≠ 0 by omega)
    have hl := Int.emod_lt_of_pos t (show 0 < n by omega)
    have hg : Int.gcd (t % n) n = 1 := by rw [gcd_emod]; exact ht
    have h0 : t % n ≠ 0 := by
      intro h
      rw [h, Int.gcd_zero_left] at hg
      omega
    have := hm (t % n) (mem_cop n n.toNat (t % n) (by omega) (by omega) hg)
    have e : ∀ z : Int, t % n * z % n = t * z % n := fun z => by rw [Int.mul_emod, Int.emod_emod, ← Int.mul_emod]
    rwa [e, e] at this
theorem lss2_anti {a b x y : Int} (h1 : lss2 a b x y = false) (h2 : lss2 x y a b = false) : a = x ∧ b = y := by
  simp [lss2] at h1 h2
  omega
theorem gcd_unit {u n x y : Int} (hu : Int.gcd u n = 1) : Int.gcd (Int.gcd (u * x % n) (u * y % n) : Int) n = Int.gcd (Int.gcd x y : Int) n := by
  rw [gcd3_emod, Int.gcd_mul_left]
  have hc : Nat.Coprime u.natAbs n.natAbs := hu
  have e1 : Int.gcd ((u.natAbs * Int.gcd x y : Nat) : Int) n = Nat.gcd (u.natAbs * Int.gcd x y) n.natAbs := rfl
  have e2 : Int.gcd ((Int.gcd x y : Nat) : Int) n = Nat.gcd (Int.gcd x y) n.natAbs := rfl
  rw [e1, e2]
  exact Nat.Coprime.gcd_mul_left_cancel _ hc
theorem nrm_ok {n x y : Int} (h1 : 1 ≤ n) (hx : 0 ≤ x ∧ x < n) (hy : 0 ≤ y ∧ y < n) (hp : isP n x y = true) : okP n (nrm n x y).1 (nrm n x y).2 = true := by
  obtain ⟨u, hu, hr⟩ := nrm_unit h1 hx hy
  obtain ⟨a, b, c, d⟩ := nrm_rst h1 hx hy
  have hlow := fun t ht => nrm_low (t := t) h1 hx hy ht
  generalize hR : nrm n x y = r at *
  unfold okP
  rw [Bool.and_eq_true]
  constructor
  · unfold isP at hp ⊢
    have := of_decide_eq_true hp
    refine decide_eq_true ?_
    rw [hr]
    simp only
    rw [gcd_unit hu]
    exact this
  · refine decide_eq_true ?_
    obtain ⟨v, hv, hs⟩ := nrm_unit (x := r.1) (y := r.2) h1 ⟨a, b⟩ ⟨c, d⟩
    have hst := (bst_min n r.1 r.2 (cop n n.toNat) (r.1, r.2)).1
    have e0 : bst n r.1 r.2 (cop n n.toNat) (r.1, r.2) = nrm n r.1 r.2 := rfl
    rw [e0] at hst
    have hvu : Int.gcd (v * u) n = 1 := by
      have hc : Nat.Coprime v.natAbs n.natAbs := hv
      have hc2 : Nat.Coprime u.natAbs n.natAbs := hu
      have e : Int.gcd (v * u) n = Nat.gcd (v.natAbs * u.natAbs) n.natAbs := by unfold Int.gcd; rw [Int.natAbs_mul]
      rw [e]
      exact Nat.Coprime.mul_left hc hc2
    have e1 : v * r.1 % n = (v * u) * x % n := by rw [hr, Int.mul_assoc]; simp only; rw [Int.mul_emod, Int.emod_emod, ← Int.mul_emod]
    have e2 : v * r.2 % n = (v * u) * y % n := by rw [hr, Int.mul_assoc]; simp only; rw [Int.mul_emod, Int.emod_emod, ← Int.mul_emod]
    have h3 := hlow _ hvu
    rw [← e1, ← e2] at h3
    rw [hs] at hst ⊢
    simp only at hst
    obtain ⟨h4, h5⟩ := lss2_anti hst h3
    rw [← h4, ← h5]
theorem mem_rowL {n c d : Int} (ho : okP n c d = true) (d0 : 0 ≤ d) : ∀ k : Nat, d < k → (c, d) ∈ rowL n c k
  | 0, h => by omega
  | k + 1, h => by
    rw [rowL]
    by_cases e : d = (k : Int)
    · rw [← e, if_pos ho]
      simp
    · have := mem_rowL ho d0 k (by omega)
      split
      · simp [this]
      · exact this
theorem mem_lnL {n c d : Int} (ho : okP n c d = true) (c0 : 0 ≤ c) (d0 : 0 ≤ d) (d1 : d < n) : ∀ k : Nat, c < k → (c, d) ∈ lnL n k
  | 0, h => by omega
  | k + 1, h => by
    rw [lnL, List.mem_append]
    by_cases e : c = (k : Int)
    · right
      rw [← e]
      exact mem_rowL ho d0 _ (by omega)
    · exact .inl (mem_lnL ho c0 d0 d1 k (by omega))
theorem rowL_memX {n c : Int} : ∀ {k : Nat} {p : Int × Int}, p ∈ rowL n c k → p.1 = c ∧ 0 ≤ p.2 ∧ p.2 < k
  | 0, p, h => by simp [rowL] at h
  | k + 1, p, h => by
    rw [rowL] at h
    split at h
    · simp only [List.mem_append, List.mem_singleton] at h
      rcases h with h | rfl
      · obtain ⟨a, b, c⟩ := rowL_memX h
        exact ⟨a, b, by omega⟩
      · exact ⟨rfl, by simp, by simp; omega⟩
    · obtain ⟨a, b, c⟩ := rowL_memX h
      exact ⟨a, b, by omega⟩
theorem lnL_memX {n : Int} : ∀ {k : Nat} {p : Int × Int}, p ∈ lnL n k → 0 ≤ p.1 ∧ p.1 < k ∧ 0 ≤ p.2 ∧ p.2 < n.toNat
  | 0, p, h => by simp [lnL] at h
  | k + 1, p, h => by
    rw [lnL, List.mem_append] at h
    rcases h with h | h
    · obtain ⟨a, b, c, d⟩ := lnL_memX h
      exact ⟨a, by omega, c, d⟩
    · obtain ⟨a, b, c⟩ := rowL_memX h
      exact ⟨by omega, by omega, b, by omega⟩
theorem rowL_nodup (n c : Int) : ∀ k : Nat, (rowL n c k).Nodup
  | 0 => List.nodup_nil
  | k + 1 => by
    rw [rowL]
    split
    · refine List.nodup_append.2 ⟨rowL_nodup n c k, by simp, fun a ha b hb => ?_⟩
      simp only [List.mem_singleton] at hb
      subst hb
      intro e
      subst e
      have := (rowL_memX ha).2.2
      simp at this
    · exact rowL_nodup n c k
theorem lnL_nodup (n : Int) : ∀ k : Nat, (lnL n k).Nodup
  | 0 => List.nodup_nil
  | k + 1 => by
    rw [lnL]
    refine List.nodup_append.2 ⟨lnL_nodup n k, rowL_nodup n k _, fun a ha b hb => ?_⟩
    intro e
    subst e
    have h1 := (lnL_memX ha).2.1
    have h2 := (rowL_memX hb).1
    omega
theorem ln_nodup (n : Int) : (ln n).Nodup := lnL_nodup n _
/-- the number of a normal pair in its line -/
theorem nrm_in {n c d : Int} (h1 : 1 ≤ n) (hp : isP n c d = true) : ∃ K : Nat, K < (ln n).length ∧ (ln n).getD K (0, 0) = nrm n (rst c n) (rst d n) := by
  have hx := rst_bd (x := c) h1
  have hy := rst_bd (x := d) h1
  have ho := nrm_ok h1 hx hy (by rw [isP_rst n c d h1]; exact hp)
  obtain ⟨a, b, e, f⟩ := nrm_rst h1 hx hy
  have hm := mem_lnL ho a e f n.toNat (by omega)
  obtain ⟨K, hK, hg⟩ := List.getElem_of_mem hm
  exact ⟨K, hK, by simp only [List.getD, List.getElem?_eq_getElem (show K < (ln n).length from hK)]; exact hg⟩
end Go.Proofs.YtdcomnnpnhinfaaDoor
