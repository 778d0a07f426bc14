/- Sums of Dedekind: of opposite numbers, of inverses, and of both orders. No program. -/
import Derived.Test.YthggpcdbnopabaaEqI
namespace Go.Proofs.Ythggpcdbnopabaa
open Go.ChangeShapes Go.WideShapes Go.ChangeAt Go.RowKit

/-- inverses have equal sums -/
theorem Df_inv {h g k : Nat} (hc : Nat.gcd g k = 1) (hi : h * g % k = 1 % k) : Dd.Df h k = Dd.Df g k := by
  have h1 := Dd.sm_perm (fun j => Dd.tt k j * Dd.tt k (h * j % k)) hc
  unfold Dd.Df
  rw [← h1]
  refine Dd.sm_congr fun i hik => ?_
  have e : h * (g * i % k) % k = i := by
    rw [Nat.mul_mod_mod, ← Nat.mul_assoc, ← Nat.mod_mul_mod, hi, Nat.mod_mul_mod, Nat.one_mul, Nat.mod_eq_of_lt hik]
  simp only [e]
  exact Int.mul_comm _ _
theorem tt_neg {k r : Nat} (h : r < k) : Dd.tt k ((k - r) % k) = -Dd.tt k r := by
  by_cases h0 : r = 0
  · subst h0; simp [Dd.tt]
  · rw [Nat.mod_eq_of_lt (by omega)]
    unfold Dd.tt
    rw [if_neg (by omega), if_neg h0]
    omega
theorem neg_rest {h k i : Nat} (hk : 1 ≤ k) (hh : h ≤ k) : (k - h) * i % k = (k - h * i % k) % k := by
  have h1 : ((k - h) * i + h * i) % k = 0 := by
    rw [← Nat.add_mul, show k - h + h = k by omega, Nat.mul_mod_right]
  have h2 : (h * i % k) < k := Nat.mod_lt _ hk
  have h3 : ((k - h) * i % k) < k := Nat.mod_lt _ hk
  rw [Nat.add_mod] at h1
  generalize (k - h) * i % k = a at *
  generalize h * i % k = b at *
  by_cases h0 : b = 0
  · subst h0
    rw [Nat.add_zero, Nat.mod_eq_of_lt h3] at h1
    simp [h1]
  · have h4 : a + b = k := by
      rcases Nat.lt_or_ge (a + b) k with h5 | h5
      · rw [Nat.mod_eq_of_lt h5] at h1; omega
      · have : (a + b) % k = a + b - k := by
          rw [Nat.mod_eq_sub_mod h5, Nat.mod_eq_of_lt (by omega)]
        omega
    rw [Nat.mod_eq_of_lt (by omega)]
    omega
theorem Df_neg {h k : Nat} (hk : 1 ≤ k) (hh : h ≤ k) : Dd.Df (k - h) k = -Dd.Df h k := by
  have e : Dd.Df (k - h) k = Dd.sm (fun i => (-1) * (Dd.tt k i * Dd.tt k (h * i % k))) k := by
    refine Dd.sm_congr fun i _ => ?_
    rw [neg_rest hk hh, tt_neg (Nat.mod_lt _ hk)]
    grind
  rw [e, Dd.sm_mul]
  unfold Dd.Df
  omega
theorem ls_three {h k : Int} {H K : Nat} (hH : (H : Int) = rst h k) (hK : (K : Int) = k) (hk : 1 ≤ k) (hc : Int.gcd h k = 1) : k * ls h k = 3 * Dd.Df H K := by
  obtain ⟨H', K', e1, e2, e3, e4, e5⟩ := ls_parts hk hc
  obtain rfl : H' = H := by omega
  obtain rfl : K' = K := by omega
  rw [e5, ← e2, Dd.three_Df (by omega) e4]
theorem ls_cancel {k x y : Int} (hk : 1 ≤ k) (h : k * x = k * y) : x = y := Int.eq_of_mul_eq_mul_left (by omega) h
/-- the sum of -h is the opposite one -/
theorem ls_neg {h k : Int} (hk : 1 ≤ k) (hc : Int.gcd h k = 1) : ls (-h) k = -ls h k := by
  obtain ⟨K, hK⟩ : ∃ K : Nat, (K : Int) = k := ⟨k.toNat, by omega⟩
  obtain ⟨r0, r1⟩ := rst_bd (x := h) hk
  obtain ⟨H, hH⟩ : ∃ H : Nat, (H : Int) = rst h k := ⟨(rst h k).toNat, by omega⟩
  have hc' : Int.gcd (-h) k = 1 := by rw [Int.neg_gcd]; exact hc
  have hn : (((K - H) % K : Nat) : Int) = rst (-h) k := by
    rw [rst_emod _ _ hk]
    have e1 : rst h k = h % k := rst_emod _ _ hk
    have e2 : (((K - H) % K : Nat) : Int) = ((K : Int) - H) % K := by
      rw [Int.natCast_emod, Int.natCast_sub (by omega)]
    rw [e2, hH, e1, hK, Int.sub_emod, Int.emod_emod_of_dvd _ (Int.dvd_refl k), ← Int.sub_emod]
    have : k - h = -h + k := by omega
    rw [this, Int.add_emod_right]
  refine ls_cancel hk ?_
  rw [ls_three hn hK hk hc', Dd.Df_mod, Df_neg (by omega) (by omega)]
  have := ls_three hH hK hk hc
  grind
/-- the sum depends on the rest alone -/
theorem rst_rst {h k : Int} (hk : 1 ≤ k) : rst (rst h k) k = rst h k := by
  rw [rst_emod _ _ hk, rst_emod _ _ hk, Int.emod_emod_of_dvd _ (Int.dvd_refl k)]
theorem ls_rst {h k : Int} (hk : 1 ≤ k) : ls (rst h k) k = ls h k := by unfold ls; rw [rst_rst hk]
theorem ls_inv {h g k : Int} (hk : 1 ≤ k) (hg : Int.gcd g k = 1) (hc : Int.gcd h k = 1) (hi : (h * g) % k = 1 % k) : ls h k = ls g k := by
  obtain ⟨K, hK⟩ : ∃ K : Nat, (K : Int) = k := ⟨k.toNat, by omega⟩
  obtain ⟨r0, r1⟩ := rst_bd (x := h) hk
  obtain ⟨s0, s1⟩ := rst_bd (x := g) hk
  obtain ⟨H, hH⟩ : ∃ H : Nat, (H : Int) = rst h k := ⟨(rst h k).toNat, by omega⟩
  obtain ⟨G, hG⟩ : ∃ G : Nat, (G : Int) = rst g k := ⟨(rst g k).toNat, by omega⟩
  have hGc : Nat.gcd G K = 1 := by
    have h1 := gcd_rst hk hg
    rw [← hG, ← hK] at h1
    simpa using h1
  have e : H * G % K = 1 % K := by
    have h1 : ((H * G % K : Nat) : Int) = ((1 % K : Nat) : Int) := by
      rw [Int.natCast_emod, Int.natCast_mul, Int.natCast_emod, hH, hG, hK, rst_emod _ _ hk, rst_emod _ _ hk, ← Int.mul_emod, hi]
      rfl
    exact_mod_cast h1
  refine ls_cancel hk ?_
  rw [ls_three hH hK hk hc, ls_three hG hK hk hg, Df_inv hGc e]
/-- both sums together -/
theorem ls_recip {a b : Int} (ha : 1 ≤ a) (hb : 1 ≤ b) (hc : Int.gcd a b = 1) : a * ls a b + b * ls b a = a * a + b * b + 1 - 3 * a * b := by
  obtain ⟨A, hA⟩ : ∃ A : Nat, (A : Int) = a := ⟨a.toNat, by omega⟩
  obtain ⟨B, hB⟩ : ∃ B : Nat, (B : Int) = b := ⟨b.toNat, by omega⟩
  have hn : Nat.gcd A B = 1 := by rw [← hA, ← hB] at hc; simpa using hc
  have e1 : ls a b = Dd.Lf A B := by
    unfold ls
    have h1 : (rst a b).toNat = A % B := by
      have : rst a b = ((A % B : Nat) : Int) := by rw [rst_emod _ _ hb, Int.natCast_emod, hA, hB]
      omega
    rw [h1, show b.toNat = B by omega, Dd.Lf_mod (by omega) hn]
  have e2 : ls b a = Dd.Lf B A := by
    unfold ls
    have h1 : (rst b a).toNat = B % A := by
      have : rst b a = ((B % A : Nat) : Int) := by rw [rst_emod _ _ ha, Int.natCast_emod, hA, hB]
      omega
    rw [h1, show a.toNat = A by omega, Dd.Lf_mod (by omega) (by rw [Nat.gcd_comm]; exact hn)]
  rw [e1, e2, ← hA, ← hB]
  exact Dd.recip (by omega) (by omega) hn
theorem low_neg {p q : Int} (hq : 0 < q) : lowP (-p) q = -lowP p q ∧ lowQ (-p) q = lowQ p q := by
  have h1 : dv (-p) q = dv p q := by
    unfold dv
    rw [if_neg (by omega), if_neg (by omega), Int.neg_gcd]
  unfold lowP lowQ
  rw [h1, Int.neg_tdiv]
  exact ⟨rfl, rfl⟩
/-- the fractions of both sums add up to that of reciprocity -/
theorem low_recip {a b x0 x1 y0 y1 : Int} (ha : 1 ≤ a) (hb : 1 ≤ b) (hc : Int.gcd a b = 1) (hx0 : lowP (ls a b) (12 * b) = x0) (hx1 : lowQ (ls a b) (12 * b) = x1) (hy0 : lowP (ls b a) (12 * a) = y0) (hy1 : lowQ (ls b a) (12 * a) = y1) :
    lowP (x0 * y1 + y0 * x1) (x1 * y1) = lowP (a * a + b * b + 1 - 3 * a * b) (12 * a * b) ∧ lowQ (x0 * y1 + y0 * x1) (x1 * y1) = lowQ (a * a + b * b + 1 - 3 * a * b) (12 * a * b) := by
  have h1 := low_scale (p := ls a b) (q := 12 * b) (by omega)
  have h2 := low_scale (p := ls b a) (q := 12 * a) (by omega)
  obtain ⟨_, _, _, _, p1, _⟩ := low_parts (p := ls a b) (q := 12 * b) (by omega)
  obtain ⟨_, _, _, _, p2, _⟩ := low_parts (p := ls b a) (q := 12 * a) (by omega)
  rw [hx0, hx1] at h1
  rw [hy0, hy1] at h2
  rw [hx1] at p1
  rw [hy1] at p2
  have h3 := ls_recip ha hb hc
  have h4 : 0 < a * b := Int.mul_pos (by omega) (by omega)
  have h5 : 12 * a * b = 12 * (a * b) := Int.mul_assoc _ _ _
  refine low_eq (Int.mul_pos p1 p2) (by omega) ?_
  rw [← h3]
  generalize ls a b = L at *
  generalize ls b a = M at *
  grind
theorem cop_has (n : Int) : ∀ (k : Nat) (u : Int), 1 ≤ u → u ≤ k → Int.gcd u n = 1 → u ∈ cop n k
  | 0, u, h1, h2, _ => by omega
  | k + 1, u, h1, h2, hg => by
    rw [cop]
    rcases (show u ≤ k ∨ u = (k : Int) + 1 by omega) with h | h
    · have := cop_has n k u h1 h hg
      split
      · exact List.mem_append_left _ this
      · exact this
    · rw [if_pos (by rw [← h]; exact hg), ← h]
      exact List.mem_append_right _ (List.mem_singleton.2 rfl)
theorem eqL_mem {h k u : Int} : ∀ {us : List Int}, u ∈ eqL h k us ↔ u ∈ us ∧ ls u k = ls h k
  | [] => by simp [eqL]
  | v :: us => by
    rw [eqL]
    split
    · rename_i e
      simp only [List.mem_cons, eqL_mem (us := us)]
      constructor
      · rintro (rfl | ⟨h1, h2⟩)
        · exact ⟨.inl rfl, e⟩
        · exact ⟨.inr h1, h2⟩
      · rintro ⟨rfl | h1, h2⟩
        · exact .inl rfl
        · exact .inr ⟨h1, h2⟩
    · rename_i e
      rw [eqL_mem (us := us), List.mem_cons]
      constructor
      · rintro ⟨h1, h2⟩; exact ⟨.inr h1, h2⟩
      · rintro ⟨rfl | h1, h2⟩
        · exact absurd h2 e
        · exact ⟨h1, h2⟩
theorem gcd_inv {i c d : Int} (h : (i * c) % d = 1 % d) : Int.gcd i d = 1 := by
  have h1 : ((Int.gcd i d : Nat) : Int) ∣ i := Int.gcd_dvd_left _ _
  have h2 : ((Int.gcd i d : Nat) : Int) ∣ d := Int.gcd_dvd_right _ _
  have h3 : d ∣ i * c - 1 := Int.dvd_of_emod_eq_zero (by rw [Int.sub_emod, h, ← Int.sub_emod]; simp)
  have h4 : ((Int.gcd i d : Nat) : Int) ∣ 1 := by
    have h5 := Int.dvd_sub (Int.dvd_trans h1 (Int.dvd_mul_right i c)) (Int.dvd_trans h2 h3)
    rwa [show i * c - (i * c - 1) = 1 by omega] at h5
  have := Int.eq_one_of_dvd_one (by omega) h4
  omega
end Go.Proofs.Ythggpcdbnopabaa
