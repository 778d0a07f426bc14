/- Sums of multiples of rows modulo a number, and what a staircase of rows tells of them. No program. -/
import Derived.Test.YtdcomnnpnhinfaaDoorBase
namespace Go.Proofs.YtdcomnnpnhinfaaDoor.Ech

/-- x is a sum of multiples of the rows R, at the first N places, modulo p. -/
inductive Sp (p : Int) (N : Nat) (R : (Nat → Int) → Prop) : (Nat → Int) → Prop
  | zero (x : Nat → Int) (h : ∀ k, k < N → p ∣ x k) : Sp p N R x
  | add (r y x : Nat → Int) (c : Int) (hr : R r) (hy : Sp p N R y) (h : ∀ k, k < N → p ∣ x k - (y k + c * r k)) : Sp p N R x
variable {p : Int} {N : Nat} {R R' : (Nat → Int) → Prop}
theorem dvd_eq {a b : Int} (h : p ∣ a) (e : a = b) : p ∣ b := e ▸ h
theorem Sp.congr {x z : Nat → Int} (h : Sp p N R x) (e : ∀ k, k < N → p ∣ z k - x k) : Sp p N R z := by
  cases h with
  | zero _ h => exact .zero _ fun k hk => dvd_eq (Int.dvd_add (e k hk) (h k hk)) (by omega)
  | add r y _ c hr hy h => exact .add r y z c hr hy fun k hk => dvd_eq (Int.dvd_add (e k hk) (h k hk)) (by omega)
theorem Sp.lin {x y z : Nat → Int} (c : Int) (hx : Sp p N R x) (hy : Sp p N R y) (e : ∀ k, k < N → p ∣ z k - (x k + c * y k)) : Sp p N R z := by
  induction hy generalizing z with
  | zero y h => exact hx.congr fun k hk => dvd_eq (Int.dvd_add (e k hk) (Int.dvd_mul_of_dvd_right (b := c) (h k hk))) (by omega)
  | add r y' y d hr hy' h ih =>
    refine .add r (fun k => x k + c * y' k) z (c * d) hr (ih fun k hk => ⟨0, by simp⟩) fun k hk => ?_
    refine dvd_eq (Int.dvd_add (e k hk) (Int.dvd_mul_of_dvd_right (b := c) (h k hk))) ?_
    rw [Int.mul_sub, Int.mul_add, Int.mul_assoc]
    omega
theorem Sp.mem {r : Nat → Int} (hr : R r) : Sp p N R r := .add r (fun _ => 0) r 1 hr (.zero _ fun _ _ => ⟨0, by simp⟩) fun k _ => ⟨0, by simp⟩
theorem Sp.trans {x : Nat → Int} (hR : ∀ r, R r → Sp p N R' r) (h : Sp p N R x) : Sp p N R' x := by
  induction h with
  | zero x h => exact .zero x h
  | add r y x c hr _ h ih => exact Sp.lin c ih (hR r hr) h
theorem Sp.unit {x : Nat → Int} {u v : Int} (huv : p ∣ u * v - 1) (h : Sp p N R (fun k => u * x k)) : Sp p N R x := by
  refine Sp.lin v (.zero (fun _ => 0) fun _ _ => ⟨0, by simp⟩) h fun k _ => ?_
  refine dvd_eq (Int.dvd_neg.2 (Int.dvd_mul_of_dvd_left (c := x k) huv)) ?_
  rw [Int.sub_mul, show u * v * x k = v * (u * x k) by rw [Int.mul_comm u v, Int.mul_assoc]]
  omega
theorem Sp.mono {x : Nat → Int} (hR : ∀ r, R r → R' r) (h : Sp p N R x) : Sp p N R' x := h.trans fun r hr => .mem (hR r hr)

/-- the sum of f over the numbers below n -/
def sm (f : Nat → Int) : Nat → Int
  | 0 => 0
  | n + 1 => sm f n + f n
theorem sm_none {f : Nat → Int} : ∀ n : Nat, (∀ j, j < n → p ∣ f j) → p ∣ sm f n
  | 0, _ => ⟨0, by simp [sm]⟩
  | n + 1, h => Int.dvd_add (sm_none n fun j hj => h j (by omega)) (h n (by omega))
theorem sm_one {f : Nat → Int} {i : Nat} : ∀ n : Nat, i < n → (∀ j, j < n → j ≠ i → p ∣ f j) → p ∣ sm f n - f i
  | 0, h, _ => by omega
  | n + 1, h, hj => by
    by_cases e : i = n
    · subst e
      exact dvd_eq (sm_none i fun j hj' => hj j (by omega) (by omega)) (by rw [sm]; omega)
    · exact dvd_eq (Int.dvd_add (sm_one n (by omega) fun j h1 h2 => hj j (by omega) h2) (hj n (by omega) (by omega))) (by rw [sm]; omega)
theorem sm_same {c g : Nat → Int} {i : Nat} {c0 : Int} : ∀ n : Nat, n ≤ i → sm (fun j => (c j + if j = i then c0 else 0) * g j) n = sm (fun j => c j * g j) n
  | 0, _ => rfl
  | n + 1, h => by
    rw [sm, sm, sm_same n (by omega), if_neg (by omega)]
    simp
theorem sm_bump {c g : Nat → Int} {i : Nat} {c0 : Int} : ∀ n : Nat, i < n → sm (fun j => (c j + if j = i then c0 else 0) * g j) n = sm (fun j => c j * g j) n + c0 * g i
  | 0, h => by omega
  | n + 1, h => by
    rw [sm, sm]
    by_cases e : i = n
    · subst e
      rw [sm_same i (Nat.le_refl _), if_pos rfl, Int.add_mul]
      omega
    · rw [sm_bump n (by omega), if_neg (by omega)]
      simp
      omega

/-- Rows with their first number that is not 0 at the place i, for the places d. -/
def Stair (p : Int) (N : Nat) (d : Nat → Prop) (e : Nat → Nat → Int) : Prop := ∀ i, i < N → d i → (∀ k, k < i → p ∣ e i k) ∧ ¬ p ∣ e i i
def Rw (N : Nat) (d : Nat → Prop) (e : Nat → Nat → Int) (r : Nat → Int) : Prop := ∃ i, i < N ∧ d i ∧ r = e i
theorem coef {d : Nat → Prop} {e : Nat → Nat → Int} {x : Nat → Int} (h : Sp p N (Rw N d e) x) :
    ∃ c : Nat → Int, (∀ i, ¬ d i → c i = 0) ∧ ∀ k, k < N → p ∣ x k - sm (fun i => c i * e i k) N := by
  induction h with
  | zero x h =>
    refine ⟨fun _ => 0, fun _ _ => rfl, fun k hk => ?_⟩
    exact Int.dvd_sub (h k hk) (sm_none N fun j _ => ⟨0, by simp⟩)
  | add r y x c0 hr _ h ih =>
    obtain ⟨c, hc, hs⟩ := ih
    obtain ⟨i, hi, hd, rfl⟩ := hr
    refine ⟨fun j => c j + if j = i then c0 else 0, fun j hj => ?_, fun k hk => ?_⟩
    · have : j ≠ i := fun e => hj (e ▸ hd)
      simp [hc j hj, this]
    · rw [sm_bump (g := fun j => e j k) N hi]
      exact dvd_eq (Int.dvd_add (h k hk) (hs k hk)) (by omega)
theorem lead {d : Nat → Prop} {e : Nat → Nat → Int} {x : Nat → Int} (hp : ∀ a b : Int, p ∣ a * b → p ∣ a ∨ p ∣ b) (hE : Stair p N d e) (h : Sp p N (Rw N d e) x) {l : Nat} (hl : l < N) (h0 : ∀ k, k < l → p ∣ x k) (hd : ¬ d l) : p ∣ x l := by
  classical
  obtain ⟨c, hc, hs⟩ := coef h
  have key : ∀ i, i < N → (∀ j, j < i → p ∣ c j) → p ∣ x i - c i * e i i := fun i hi hj => by
    have h1 := hs i hi
    have h2 : p ∣ sm (fun j => c j * e j i) N - c i * e i i := sm_one (f := fun j => c j * e j i) N hi fun j hjN hne => by
      by_cases hdj : d j
      · rcases Nat.lt_or_gt_of_ne hne with h | h
        · exact Int.dvd_mul_of_dvd_left (hj j h)
        · exact Int.dvd_mul_of_dvd_right ((hE j hjN hdj).1 i h)
      · show p ∣ c j * e j i
        rw [hc j hdj]
        exact ⟨0, by simp⟩
    exact dvd_eq (Int.dvd_add h1 h2) (by omega)
  have all : ∀ i, i ≤ l → ∀ j, j < i → p ∣ c j := fun i => by
    induction i with
    | zero => intro _ j hj; omega
    | succ i ih =>
      intro hi j hj
      have hb := ih (by omega)
      by_cases hji : j = i
      · subst hji
        by_cases hdj : d j
        · have h1 := key j (by omega) hb
          have h2 : p ∣ c j * e j j := dvd_eq (Int.dvd_sub (h0 j (by omega)) h1) (by omega)
          exact (hp _ _ h2).resolve_right (hE j (by omega) hdj).2
        · rw [hc j hdj]; exact ⟨0, by simp⟩
      · exact hb j (by omega)
  have h3 := key l hl (all l (Nat.le_refl _))
  rw [hc l hd] at h3
  simpa using h3
theorem leads {d d' : Nat → Prop} {e e' : Nat → Nat → Int} (hp : ∀ a b : Int, p ∣ a * b → p ∣ a ∨ p ∣ b) (hE : Stair p N d e) (hE' : Stair p N d' e') (h : ∀ r, Rw N d e r → Sp p N (Rw N d' e') r) {i : Nat} (hi : i < N) (hd : d i) : d' i := by
  classical
  exact Decidable.byContradiction fun hd' => (hE i hi hd).2 (lead hp hE' (h _ ⟨i, hi, hd, rfl⟩) hi (hE i hi hd).1 hd')
theorem gone {d : Nat → Prop} {e : Nat → Nat → Int} {x : Nat → Int} (hp : ∀ a b : Int, p ∣ a * b → p ∣ a ∨ p ∣ b) (hE : Stair p N d e) (h : Sp p N (Rw N d e) x) (hz : ∀ k, k < N → d k → p ∣ x k) : ∀ k, k < N → p ∣ x k := by
  classical
  intro k
  induction k using Nat.strongRecOn with
  | _ k ih =>
    intro hk
    by_cases hd : d k
    · exact hz k hk hd
    · exact lead hp hE h hk (fun j hj => ih j hj (by omega)) hd

/-- Two lists without doubles and with the same members are equally long. -/
theorem len_same {l l' : List Nat} (h : l.Nodup) (h' : l'.Nodup) (hm : ∀ x, x ∈ l ↔ x ∈ l') : l.length = l'.length :=
  Nat.le_antisymm (h.length_le_of_subset fun x hx => (hm x).1 hx) (h'.length_le_of_subset fun x hx => (hm x).2 hx)

/-- the model's power: a to the number k, modulo p -/
def pwG (p : Nat) : Nat → Nat → Nat → Nat → Nat
  | 0, _, _, out => out
  | f + 1, k, a, out => if k = 0 then out else pwG p f (k / 2) (a * a % p) (if k % 2 = 1 then out * a % p else out)
def invN (p a : Nat) : Nat := pwG p 14 (p - 2) a 1
def leafI (p a : Nat) : Bool := decide (a = 0) || decide (p ≤ a) || decide (invN p a * a % p = 1)
def chkI (p : Nat) : Nat → Nat → Bool
  | 0, lo => leafI p lo
  | d + 1, lo => chkI p d lo && chkI p d (lo + 2 ^ d)
theorem chkI_leaf {p : Nat} : ∀ {d lo : Nat}, chkI p d lo = true → ∀ a, lo ≤ a → a < lo + 2 ^ d → leafI p a = true
  | 0, lo, h, a, h1, h2 => by
    have : a = lo := by simp at h2; omega
    subst this
    exact h
  | d + 1, lo, h, a, h1, h2 => by
    rw [chkI, Bool.and_eq_true] at h
    rw [Nat.pow_succ] at h2
    by_cases e : a < lo + 2 ^ d
    · exact chkI_leaf h.1 a h1 e
    · exact chkI_leaf h.2 a (by omega) (by omega)
theorem chk5 : chkI 5 3 0 = true := by decide +kernel
theorem chk7 : chkI 7 3 0 = true := by decide +kernel
theorem chk11 : chkI 11 4 0 = true := by decide +kernel
theorem chk101 : chkI 101 7 0 = true := by decide +kernel
theorem chk10007 : chkI 10007 14 0 = true := by decide +kernel
/-- the five primes -/
def fiveP (p : Nat) : Prop := p = 5 ∨ p = 7 ∨ p = 11 ∨ p = 101 ∨ p = 10007
theorem inv_is {p a : Nat} (hp : fiveP p) (h0 : 0 < a) (ha : a < p) : invN p a * a % p = 1 := by
  have h : leafI p a = true := by
    rcases hp with rfl | rfl | rfl | rfl | rfl
    · exact chkI_leaf chk5 a (by omega) (by omega)
    · exact chkI_leaf chk7 a (by omega) (by omega)
    · exact chkI_leaf chk11 a (by omega) (by omega)
    · exact chkI_leaf chk101 a (by omega) (by omega)
    · exact chkI_leaf chk10007 a (by omega) (by omega)
  unfold leafI at h
  simp only [Bool.or_eq_true, decide_eq_true_eq] at h
  omega
theorem invI_is {p a : Nat} (hp : fiveP p) (h0 : 0 < a) (ha : a < p) : (p : Int) ∣ (a : Int) * (invN p a : Int) - 1 := by
  have h := inv_is hp h0 ha
  have h2 := Nat.div_add_mod (invN p a * a) p
  rw [h] at h2
  have h3 : ((invN p a * a : Nat) : Int) = (p : Int) * ((invN p a * a / p : Nat) : Int) + 1 := by
    have := congrArg (fun n : Nat => (n : Int)) h2
    simp only [Int.natCast_add, Int.natCast_mul] at this ⊢
    omega
  refine ⟨((invN p a * a / p : Nat) : Int), ?_⟩
  rw [Int.mul_comm, ← Int.natCast_mul, h3]
  omega
theorem unit_of {p : Nat} (hp : fiveP p) (a : Int) (h : ¬ (p : Int) ∣ a) : ∃ v, (p : Int) ∣ a * v - 1 := by
  have hp0 : 0 < p := by rcases hp with rfl | rfl | rfl | rfl | rfl <;> omega
  have h1 := Int.emod_nonneg a (show (p : Int) ≠ 0 by omega)
  have h2 := Int.emod_lt_of_pos a (show (0 : Int) < p by omega)
  have h3 := Int.mul_ediv_add_emod a p
  obtain ⟨b, hb⟩ : ∃ b : Nat, a % (p : Int) = b := ⟨(a % (p : Int)).toNat, by omega⟩
  have hb0 : 0 < b := by
    rcases Nat.eq_zero_or_pos b with e | e
    · exact absurd (Int.dvd_of_emod_eq_zero (by rw [hb, e]; rfl)) h
    · exact e
  refine ⟨invN p b, ?_⟩
  have h4 := invI_is hp hb0 (by omega)
  rw [hb] at h3
  rw [← h3, Int.add_mul]
  refine dvd_eq (Int.dvd_add (Int.dvd_mul_of_dvd_left (c := (invN p b : Int)) (Int.dvd_mul_right (p : Int) (a / p))) h4) ?_
  omega
theorem prime_of {p : Nat} (hp : fiveP p) (a b : Int) (h : (p : Int) ∣ a * b) : (p : Int) ∣ a ∨ (p : Int) ∣ b := by
  classical
  by_cases ha : (p : Int) ∣ a
  · exact .inl ha
  · obtain ⟨v, hv⟩ := unit_of hp a ha
    refine .inr (dvd_eq (Int.dvd_sub (Int.dvd_mul_of_dvd_right (b := v) h) (Int.dvd_mul_of_dvd_left (c := b) hv)) ?_)
    rw [Int.sub_mul, show v * (a * b) = a * v * b by rw [← Int.mul_assoc, Int.mul_comm v a]]
    omega
end Go.Proofs.YtdcomnnpnhinfaaDoor.Ech
