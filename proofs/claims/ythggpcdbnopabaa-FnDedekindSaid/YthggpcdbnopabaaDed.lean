/- Sums of Dedekind: the law of reciprocity, and that 12 k times the sum of h and k is a whole number. No program. -/
import Derived.Test.YthggpcdbnopabaaBase
namespace Go.Proofs.Ythggpcdbnopabaa.Dd
/-- the sum of f over the numbers below n -/
def sm (f : Nat → Int) : Nat → Int
  | 0 => 0
  | n + 1 => sm f n + f n
theorem sm_congr {f g : Nat → Int} : ∀ {n : Nat}, (∀ i, i < n → f i = g i) → sm f n = sm g n
  | 0, _ => rfl
  | n + 1, h => by rw [sm, sm, sm_congr (fun i hi => h i (by omega)), h n (by omega)]
theorem sm_add (f g : Nat → Int) : ∀ n, sm (fun i => f i + g i) n = sm f n + sm g n
  | 0 => rfl
  | n + 1 => by simp only [sm, sm_add f g n]; omega
theorem sm_mul (c : Int) (f : Nat → Int) : ∀ n, sm (fun i => c * f i) n = c * sm f n
  | 0 => by simp [sm]
  | n + 1 => by simp only [sm, sm_mul c f n, Int.mul_add]
theorem sm_const (c : Int) : ∀ n : Nat, sm (fun _ => c) n = n * c
  | 0 => by simp [sm]
  | n + 1 => by simp only [sm, sm_const c n]; grind
theorem sm_zero (f : Nat → Int) : ∀ n : Nat, (∀ i, i < n → f i = 0) → sm f n = 0
  | 0, _ => rfl
  | n + 1, h => by rw [sm, sm_zero f n (fun i hi => h i (by omega)), h n (by omega)]; rfl
theorem sm_swap (g : Nat → Nat → Int) (m : Nat) : ∀ n, sm (fun i => sm (g i) m) n = sm (fun j => sm (fun i => g i j) n) m
  | 0 => by simp only [sm]; exact (sm_zero _ m (fun _ _ => rfl)).symm
  | n + 1 => by simp only [sm]; rw [sm_swap g m n, sm_add (fun j => sm (fun i => g i j) n) (fun j => g n j) m]
theorem sm_id : ∀ n : Nat, 2 * sm (fun i => (i : Int)) n = n * (n - 1)
  | 0 => by simp [sm]
  | n + 1 => by have := sm_id n; simp only [sm]; grind
theorem sm_sq : ∀ n : Nat, 6 * sm (fun i => (i : Int) * i) n = n * (n - 1) * (2 * n - 1)
  | 0 => by simp [sm]
  | n + 1 => by have := sm_sq n; simp only [sm]; grind
/-- the weights of squares -/
def wt (j : Nat) : Int := if j = 0 then 0 else 2 * j - 1
theorem sm_wt : ∀ n : Nat, sm wt (n + 1) = n * n
  | 0 => by simp [sm, wt]
  | n + 1 => by have := sm_wt n; rw [sm, this, wt, if_neg (by omega)]; grind
theorem sm_cut (a : Nat → Int) (c : Nat) : ∀ n, c < n → sm (fun i => if i ≤ c then a i else 0) n = sm a (c + 1)
  | 0, h => by omega
  | n + 1, h => by
    rw [sm]
    by_cases e : c < n
    · rw [sm_cut a c n e, if_neg (by omega)]; omega
    · obtain rfl : c = n := by omega
      rw [if_pos (Nat.le_refl _), sm, sm_congr (fun i hi => if_pos (by omega))]

/-- sums over lists -/
def ls (f : Nat → Int) : List Nat → Int
  | [] => 0
  | x :: l => f x + ls f l
theorem ls_perm {f : Nat → Int} {l l' : List Nat} (h : l.Perm l') : ls f l = ls f l' := by
  induction h with
  | nil => rfl
  | cons x _ ih => simp only [ls, ih]
  | swap x y l => simp only [ls]; omega
  | trans _ _ a b => exact a.trans b
theorem ls_append (f : Nat → Int) : ∀ l l' : List Nat, ls f (l ++ l') = ls f l + ls f l'
  | [], l' => by simp [ls]
  | x :: l, l' => by simp only [List.cons_append, ls, ls_append f l l']; omega
theorem ls_range (f : Nat → Int) : ∀ n, ls f (List.range n) = sm f n
  | 0 => rfl
  | n + 1 => by rw [List.range_succ, ls_append, ls_range f n]; simp [ls, sm]
theorem ls_map (f : Nat → Int) (p : Nat → Nat) : ∀ l : List Nat, ls f (l.map p) = ls (fun i => f (p i)) l
  | [] => rfl
  | x :: l => by simp only [List.map_cons, ls, ls_map f p l]
theorem perm_range : ∀ (n : Nat) (l : List Nat), l.Nodup → (∀ x ∈ l, x < n) → l.length = n → l.Perm (List.range n)
  | 0, l, _, _, h => by rw [List.eq_nil_of_length_eq_zero h]; exact List.Perm.refl _
  | n + 1, l, hd, hb, hl => by
    by_cases e : n ∈ l
    · have h1 := List.perm_cons_erase e
      have h2 := perm_range n (l.erase n) (hd.erase n) (fun x hx => by
        have h3 := (List.Nodup.mem_erase_iff hd).1 hx
        have := hb x h3.2
        omega) (by rw [List.length_erase_of_mem e]; omega)
      rw [List.range_succ]
      exact (h1.trans (h2.cons n)).trans (List.perm_append_singleton n _).symm
    · match l, hl with
      | x :: l, hl =>
        simp only [List.nodup_cons] at hd
        have hm : ∀ y ∈ x :: l, y < n := fun y hy => by
          have := hb y hy
          have : y ≠ n := fun he => e (he ▸ hy)
          omega
        have h2 := perm_range n l hd.2 (fun y hy => hm y (List.mem_cons_of_mem _ hy)) (by simpa using hl)
        exact absurd (h2.mem_iff.2 (List.mem_range.2 (hm x (List.mem_cons_self)))) hd.1
theorem cop_dvd {h k i : Nat} (hc : Nat.gcd h k = 1) (hd : k ∣ h * i) : k ∣ i :=
  Nat.Coprime.dvd_of_dvd_mul_left (k := k) (m := h) (n := i) (by rw [Nat.Coprime, Nat.gcd_comm]; exact hc) hd
theorem mod_inj {h k i j : Nat} (hc : Nat.gcd h k = 1) (hj : j < k) (hij : i ≤ j) (he : h * i % k = h * j % k) : i = j := by
  have h1 : k ∣ h * (j - i) := by
    rw [Nat.mul_sub]
    exact Nat.dvd_of_mod_eq_zero (Nat.sub_mod_eq_zero_of_mod_eq he.symm)
  have h2 := cop_dvd hc h1
  rcases Nat.eq_zero_or_pos (j - i) with h0 | h0
  · omega
  · have := Nat.le_of_dvd h0 h2
    omega
theorem map_nodup {p : Nat → Nat} : ∀ {l : List Nat}, l.Nodup → (∀ x ∈ l, ∀ y ∈ l, p x = p y → x = y) → (l.map p).Nodup
  | [], _, _ => by simp
  | x :: l, hd, hi => by
    simp only [List.nodup_cons] at hd
    simp only [List.map_cons, List.nodup_cons, List.mem_map]
    refine ⟨?_, map_nodup hd.2 (fun a ha b hb => hi a (List.mem_cons_of_mem _ ha) b (List.mem_cons_of_mem _ hb))⟩
    rintro ⟨y, hy, he⟩
    have := hi y (List.mem_cons_of_mem _ hy) x List.mem_cons_self he
    exact hd.1 (this ▸ hy)
theorem sm_perm (f : Nat → Int) {h k : Nat} (hc : Nat.gcd h k = 1) : sm (fun i => f (h * i % k)) k = sm f k := by
  rcases Nat.eq_zero_or_pos k with h0 | h0
  · subst h0; rfl
  have h1 := perm_range k ((List.range k).map fun i => h * i % k) (map_nodup List.nodup_range (fun x hx y hy he => by
      have hx' := List.mem_range.1 hx
      have hy' := List.mem_range.1 hy
      rcases Nat.le_total x y with hl | hl
      · exact mod_inj hc hy' hl he
      · exact (mod_inj hc hx' hl he.symm).symm)) (fun x hx => by
      obtain ⟨y, _, rfl⟩ := List.mem_map.1 hx
      exact Nat.mod_lt _ h0) (by simp)
  rw [← ls_range, ← ls_range, ← ls_map f (fun i => h * i % k), ls_perm h1]

/-- the sum of i times the whole part of h i / k -/
def Bf (h k : Nat) : Int := sm (fun i => (i : Int) * ((h * i / k : Nat) : Int)) k
def Fa (h k : Nat) : Int := sm (fun i => ((h * i / k : Nat) : Int)) k
def Fb (h k : Nat) : Int := sm (fun i => ((h * i / k : Nat) : Int) * ((h * i / k : Nat) : Int)) k
theorem rest_eq (h k i : Nat) : ((h * i % k : Nat) : Int) = h * i - k * ((h * i / k : Nat) : Int) := by
  have h1 := Nat.div_add_mod (h * i) k
  have h2 : (k : Int) * ((h * i / k : Nat) : Int) + ((h * i % k : Nat) : Int) = (h : Int) * i := by exact_mod_cast h1
  omega
theorem sm_rest {h k : Nat} (hc : Nat.gcd h k = 1) : (h : Int) * sm (fun i => (i : Int)) k - k * Fa h k = sm (fun i => (i : Int)) k := by
  have h1 := sm_perm (fun i => (i : Int)) hc
  rw [sm_congr (g := fun i => (h : Int) * i + (-(k : Int)) * ((h * i / k : Nat) : Int)) (fun i _ => by rw [rest_eq]; grind), sm_add, sm_mul, sm_mul] at h1
  unfold Fa
  grind
theorem sm_F1 {h k : Nat} (hk : 1 ≤ k) (hc : Nat.gcd h k = 1) : 2 * Fa h k = (h - 1) * (k - 1) := by
  have h1 := sm_rest hc
  have h2 := sm_id k
  have h3 : (k : Int) * (2 * Fa h k) = k * ((h - 1) * (k - 1)) := by grind
  exact Int.eq_of_mul_eq_mul_left (by omega) h3
theorem sm_rest2 {h k : Nat} (hc : Nat.gcd h k = 1) : (h : Int) * h * sm (fun i => (i : Int) * i) k - 2 * h * k * Bf h k + k * k * Fb h k = sm (fun i => (i : Int) * i) k := by
  have h1 := sm_perm (fun i => (i : Int) * i) hc
  rw [sm_congr (g := fun i => ((h : Int) * h) * ((i : Int) * i) + ((-(2 * (h : Int) * k)) * ((i : Int) * ((h * i / k : Nat) : Int)) + ((k : Int) * k) * (((h * i / k : Nat) : Int) * ((h * i / k : Nat) : Int)))) (fun i _ => by
    simp only [rest_eq]; grind), sm_add, sm_add, sm_mul, sm_mul, sm_mul] at h1
  unfold Bf Fb
  grind
theorem le_div {h k i j : Nat} (hk : 1 ≤ k) : j ≤ h * i / k ↔ j * k ≤ h * i := Nat.le_div_iff_mul_le hk
theorem sm_F2 {h k : Nat} (hh : 1 ≤ h) (hk : 1 ≤ k) (hc : Nat.gcd h k = 1) : Fb h k = (k - 1) * ((h - 1) * (h - 1)) - 2 * Bf k h + Fa k h := by
  have e1 : Fb h k = sm (fun i => sm (fun j => if j * k ≤ h * i then wt j else 0) h) k := by
    refine sm_congr fun i hi => ?_
    have hlt : h * i / k < h := by
      rw [Nat.div_lt_iff_lt_mul hk]
      exact Nat.mul_lt_mul_of_pos_left hi hh
    have h1 := sm_cut wt (h * i / k) h hlt
    rw [sm_wt] at h1
    rw [← h1]
    refine sm_congr fun j _ => ?_
    simp only [le_div hk]
  have e2 : Fb h k = sm (fun j => wt j * ((k : Int) - 1 - ((k * j / h : Nat) : Int))) h := by
    rw [e1, sm_swap]
    refine sm_congr fun j hj => ?_
    by_cases h0 : j = 0
    · subst h0
      simp only [wt]
      rw [sm_zero]
      · simp
      · intro i _; simp
    · have hlt : k * j / h < k := by
        rw [Nat.div_lt_iff_lt_mul hh]
        exact Nat.mul_lt_mul_of_pos_left hj hk
      have hne : ∀ i, h * i ≠ j * k := fun i he => by
        have h3 : h ∣ k * j := ⟨i, by rw [Nat.mul_comm k j]; exact he.symm⟩
        have := Nat.le_of_dvd (by omega) (cop_dvd (by rw [Nat.gcd_comm]; exact hc) h3)
        omega
      have h2 : sm (fun i => if j * k ≤ h * i then wt j else 0) k = sm (fun i => wt j + (-(wt j)) * (if i ≤ k * j / h then 1 else 0)) k := by
        refine sm_congr fun i _ => ?_
        have h4 : i ≤ k * j / h ↔ i * h ≤ k * j := Nat.le_div_iff_mul_le hh
        have h5 : i * h = h * i := Nat.mul_comm _ _
        have h6 : k * j = j * k := Nat.mul_comm _ _
        have h7 := hne i
        by_cases h8 : j * k ≤ h * i
        · rw [if_pos h8, if_neg (by omega)]; omega
        · rw [if_neg h8, if_pos (by omega)]; omega
      rw [h2, sm_add, sm_const, sm_mul, sm_cut _ _ _ hlt, sm_const]
      grind
  rw [e2, sm_congr (g := fun j => ((k : Int) - 1) * wt j + ((-2) * ((j : Int) * ((k * j / h : Nat) : Int)) + ((k * j / h : Nat) : Int))) (fun j _ => by
    by_cases h0 : j = 0
    · subst h0; simp [wt]
    · rw [wt, if_neg h0]; grind), sm_add, sm_add, sm_mul, sm_mul]
  have h9 : sm wt h = (h - 1) * (h - 1) := by
    obtain ⟨m, rfl⟩ : ∃ m, h = m + 1 := ⟨h - 1, by omega⟩
    rw [sm_wt]; grind
  rw [h9]
  unfold Bf Fa
  grind
/-- the sum of h and k, times 12 k -/
def Lf (h k : Nat) : Int := 2 * h * (k - 1) * (2 * k - 1) - 12 * Bf h k - 3 * k * (k - 1)
theorem recip {h k : Nat} (hh : 1 ≤ h) (hk : 1 ≤ k) (hc : Nat.gcd h k = 1) : (h : Int) * Lf h k + k * Lf k h = h * h + k * k + 1 - 3 * h * k := by
  have h1 := sm_rest2 hc
  have h2 := sm_F2 hh hk hc
  have h3 := sm_F1 (h := k) (k := h) hh (by rw [Nat.gcd_comm]; exact hc)
  have h4 := sm_sq k
  have h5 : (k : Int) * (12 * h * Bf h k + 12 * k * Bf k h) = k * ((h - 1) * (k - 1) * (8 * h * k - h - k - 1)) := by
    clear hc hh hk
    generalize sm (fun i => (i : Int) * i) k = S at h1 h4
    generalize Fb h k = F at h1 h2
    generalize Fa k h = G at h2 h3
    generalize Bf h k = B at h1 ⊢
    generalize Bf k h = B' at h2 ⊢
    generalize (h : Int) = x at *
    generalize (k : Int) = y at *
    subst h2
    have e1 : (x * x - 1) * (6 * S) - 12 * x * y * B + 6 * (y * y * ((y - 1) * ((x - 1) * (x - 1)) - 2 * B' + G)) = 0 := by grind
    rw [h4] at e1
    have e2 : y * y * (2 * G) = y * y * ((y - 1) * (x - 1)) := by rw [h3]
    clear h1 h3 h4
    grind
  have h6 := Int.eq_of_mul_eq_mul_left (show (k : Int) ≠ 0 by omega) h5
  unfold Lf
  grind
/-- the saw tooth of r / k, times 2 k -/
def tt (k r : Nat) : Int := if r = 0 then 0 else 2 * r - k
def Df (h k : Nat) : Int := sm (fun i => tt k i * tt k (h * i % k)) k
theorem Df_mod (h k : Nat) : Df (h % k) k = Df h k := by
  refine sm_congr fun i _ => ?_
  rw [Nat.mod_mul_mod]
theorem three_Df {h k : Nat} (hk : 1 ≤ k) (hc : Nat.gcd h k = 1) : 3 * Df h k = k * Lf h k := by
  have h1 : Df h k = sm (fun i => (2 * (i : Int) - k) * (2 * ((h * i % k : Nat) : Int) - k)) k - k * k := by
    obtain ⟨n, rfl⟩ : ∃ n, k = n + 1 := ⟨k - 1, by omega⟩
    have aux : ∀ m, m ≤ n → sm (fun i => tt (n + 1) i * tt (n + 1) (h * i % (n + 1))) (m + 1) = sm (fun i => (2 * (i : Int) - (n + 1 : Nat)) * (2 * ((h * i % (n + 1) : Nat) : Int) - (n + 1 : Nat))) (m + 1) - (n + 1 : Nat) * (n + 1 : Nat) := by
      intro m
      induction m with
      | zero => intro _; simp [sm, tt]; grind
      | succ m ih =>
        intro hm
        have hs : ∀ g : Nat → Int, sm g (m + 1 + 1) = sm g (m + 1) + g (m + 1) := fun _ => rfl
        rw [hs, hs, ih (by omega)]
        have hr : h * (m + 1) % (n + 1) ≠ 0 := fun h0 => by
          have := Nat.le_of_dvd (by omega) (cop_dvd hc (Nat.dvd_of_mod_eq_zero h0))
          omega
        simp only [tt, if_neg (show ¬ m + 1 = 0 by omega), if_neg hr]
        generalize sm _ (m + 1) = S
        generalize (2 * ((m + 1 : Nat) : Int) - _) * _ = T
        omega
    exact aux n (Nat.le_refl _)
  have h2 : sm (fun i => (2 * (i : Int) - k) * (2 * ((h * i % k : Nat) : Int) - k)) k = 4 * (h * sm (fun i => (i : Int) * i) k - k * Bf h k) - 2 * k * sm (fun i => (i : Int)) k - 2 * k * sm (fun i => ((h * i % k : Nat) : Int)) k + k * k * k := by
    rw [sm_congr (g := fun i => (4 * (h : Int)) * ((i : Int) * i) + ((-(4 * (k : Int))) * ((i : Int) * ((h * i / k : Nat) : Int)) + ((-(2 * (k : Int))) * (i : Int) + ((-(2 * (k : Int))) * ((h * i % k : Nat) : Int) + (k : Int) * k)))) (fun i _ => by
      have := rest_eq h k i
      grind), sm_add, sm_add, sm_add, sm_add, sm_mul, sm_mul, sm_mul, sm_mul, sm_const]
    unfold Bf
    grind
  have h3 := sm_perm (fun i => (i : Int)) hc
  have h4 := sm_id k
  have h5 := sm_sq k
  unfold Lf
  grind
theorem Lf_mod {h k : Nat} (hk : 1 ≤ k) (hc : Nat.gcd h k = 1) : Lf (h % k) k = Lf h k := by
  have h1 := three_Df hk hc
  have h2 := three_Df (h := h % k) hk (by rw [← Nat.gcd_rec, Nat.gcd_comm]; exact hc)
  rw [Df_mod] at h2
  exact Int.eq_of_mul_eq_mul_left (show (k : Int) ≠ 0 by omega) (h2.symm.trans h1)
theorem tt_bd {k r : Nat} (h : r < k) : -(k : Int) ≤ tt k r ∧ tt k r ≤ k := by
  unfold tt; split <;> omega
theorem mul_bd {x y K : Int} (hK : 0 ≤ K) (h1 : -K ≤ x) (h2 : x ≤ K) (h3 : -K ≤ y) (h4 : y ≤ K) : -(K * K) ≤ x * y ∧ x * y ≤ K * K := by
  have h5 : (x * y).natAbs ≤ K.natAbs * K.natAbs := by
    rw [Int.natAbs_mul]; exact Nat.mul_le_mul (by omega) (by omega)
  have h6 : ((K.natAbs * K.natAbs : Nat) : Int) = K * K := by
    rw [Int.natCast_mul, Int.natAbs_of_nonneg hK]
  omega
theorem sm_bd {f : Nat → Int} {b : Int} : ∀ {n : Nat}, (∀ i, i < n → -b ≤ f i ∧ f i ≤ b) → -(n * b) ≤ sm f n ∧ sm f n ≤ n * b
  | 0, _ => by simp [sm]
  | n + 1, h => by
    have h1 := sm_bd (n := n) (fun i hi => h i (by omega))
    have h2 := h n (by omega)
    have h3 : ((n + 1 : Nat) : Int) * b = n * b + b := by grind
    rw [sm, h3]; omega
theorem Df_part {h k n : Nat} (hk : 1 ≤ k) (hn : n ≤ k) : -(n * ((k : Int) * k)) ≤ sm (fun i => tt k i * tt k (h * i % k)) n ∧ sm (fun i => tt k i * tt k (h * i % k)) n ≤ n * ((k : Int) * k) :=
  sm_bd fun i hi => by
    have h1 := tt_bd (k := k) (r := i) (by omega)
    have h2 := tt_bd (k := k) (r := h * i % k) (Nat.mod_lt _ hk)
    exact mul_bd (by omega) h1.1 h1.2 h2.1 h2.2
theorem Df_bd {h k : Nat} (hk : 1 ≤ k) : -(k * ((k : Int) * k)) ≤ Df h k ∧ Df h k ≤ k * ((k : Int) * k) := Df_part hk (Nat.le_refl k)
theorem Lf_bd {h k : Nat} (hk : 1 ≤ k) (hc : Nat.gcd h k = 1) : -(3 * (k * k)) ≤ Lf h k ∧ Lf h k ≤ 3 * ((k : Int) * k) := by
  have h1 := three_Df hk hc
  have h2 := Df_bd (h := h) hk
  have hk' : (0 : Int) < k := by omega
  constructor
  · refine Int.le_of_mul_le_mul_left ?_ hk'
    rw [← h1]; grind
  · refine Int.le_of_mul_le_mul_left ?_ hk'
    rw [← h1]; grind
end Go.Proofs.Ythggpcdbnopabaa.Dd
