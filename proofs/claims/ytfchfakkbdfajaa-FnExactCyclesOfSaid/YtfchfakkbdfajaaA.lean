/- Contracts of the first chapter's small functions. -/
import Derived.Test.YtfchfakkbdfajaaBase
namespace Go.Proofs.Ytfchfakkbdfajaa
open Go.ChangeShapes Go.WideShapes Go.ChangeAt Go.RowKit

/-- from -lim to lim -/
def inW (x lim : Int) : Bool := decide (-lim ≤ x ∧ x ≤ lim)

/-- all from -lim to lim -/
def allW (xs : List Int) (lim : Int) : Bool := xs.all fun x => inW x lim

theorem allW_take (xs : List Int) (lim : Int) (k : Nat) (hk : k < xs.length) (h : allW (xs.take k) lim = true) (hx : inW (xs.getD k 0) lim = true) : allW (xs.take (k + 1)) lim = true := by
  unfold allW at *
  rw [List.take_succ_eq_append_getElem hk, List.all_append, h]
  simpa [List.getD, List.getElem?_eq_getElem hk] using hx
theorem allW_not (xs : List Int) (lim : Int) (k : Nat) (hk : k < xs.length) (hx : inW (xs.getD k 0) lim = false) : allW xs lim = false := by
  unfold allW
  rw [List.all_eq_false]
  exact ⟨xs[k], List.getElem_mem hk, by simpa [List.getD, List.getElem?_eq_getElem hk] using hx⟩

theorem mul_bd {a d A D : Int} (ha : -A ≤ a ∧ a ≤ A) (hd : -D ≤ d ∧ d ≤ D) : -(A * D) ≤ a * d ∧ a * d ≤ A * D := by
  have h1 : a.natAbs ≤ A.toNat := by omega
  have h2 : d.natAbs ≤ D.toNat := by omega
  have h3 : (a * d).natAbs ≤ A.toNat * D.toNat := by rw [Int.natAbs_mul]; exact Nat.mul_le_mul h1 h2
  have h4 : ((A.toNat * D.toNat : Nat) : Int) = A * D := by rw [Int.natCast_mul, Int.toNat_of_nonneg (by omega), Int.toNat_of_nonneg (by omega)]
  omega

/-- an entry: from -1000000000 to 1000000000 -/
def Ent (x : Int) : Prop := -1000000000 ≤ x ∧ x ≤ 1000000000
theorem ent_iff {x : Int} : inW x 1000000000 = true ↔ Ent x := by simp [inW, Ent]
theorem ent_mul {a d : Int} (ha : Ent a) (hd : Ent d) : -1000000000000000000 ≤ a * d ∧ a * d ≤ 1000000000000000000 := by
  have := mul_bd ha hd
  omega
/-- four numbers are those of a matrix -/
instance (x : Int) : Decidable (Ent x) := inferInstanceAs (Decidable (_ ∧ _))
def isM (a b c d : Int) : Bool := decide (Ent a ∧ Ent b ∧ Ent c ∧ Ent d ∧ a * d - b * c = 1)
theorem allW4 (a b c d : Int) : allW [a, b, c, d] 1000000000 = true ↔ Ent a ∧ Ent b ∧ Ent c ∧ Ent d := by
  simp [allW, ent_iff]

/-- from low to high -/
def inR (x lo hi : Int) : Bool := decide (lo ≤ x ∧ x ≤ hi)

theorem l01In_any (x lo hi : Int) (w : World) :
    Calls Try.prog 58 #[.int .i64 x, .int .i64 lo, .int .i64 hi] w fun e w' => e = .returned (.bool (inR x lo hi)) ∧ w = w' := by
  by_cases a : lo ≤ x
  · by_cases b : x ≤ hi
    · go_enter Try.func58, Try.ntmps58
      go_wp2
      go_ret
      exact ⟨by simp [inR, a, b], rfl⟩
    · go_enter Try.func58, Try.ntmps58
      go_wp2
      go_ret
      exact ⟨by simp [inR, a, b], rfl⟩
  · go_enter Try.func58, Try.ntmps58
    go_wp2
    go_ret
    exact ⟨by simp [inR]; omega, rfl⟩

theorem isM_of {a b c d : Int} (ha : inW a 1000000000 = true) (hb : inW b 1000000000 = true) (hc : inW c 1000000000 = true) (hd : inW d 1000000000 = true) (r : Bool) (h : (a * d - b * c == 1) = r) : isM a b c d = r := by
  rw [ent_iff] at ha hb hc hd
  unfold isM
  subst h
  by_cases h : a * d - b * c = 1 <;> simp [h, ha, hb, hc, hd]
theorem isM_not {a b c d : Int} (h : inW a 1000000000 = false ∨ inW b 1000000000 = false ∨ inW c 1000000000 = false ∨ inW d 1000000000 = false) : isM a b c d = false := by
  simp only [← Bool.not_eq_true, ent_iff] at h
  unfold isM
  rw [decide_eq_false_iff_not]
  rintro ⟨ha, hb, hc, hd, _⟩
  rcases h with h | h | h | h <;> contradiction

theorem ent_i64 {x : Int} (h : Ent x) : I64 x := by unfold Ent at h; unfold I64; omega
theorem isM_ent {a b c d : Int} (h : isM a b c d = true) : Ent a ∧ Ent b ∧ Ent c ∧ Ent d ∧ a * d - b * c = 1 := of_decide_eq_true h

theorem l01In_is (r : Bool) (x lo hi : Int) (hr : inR x lo hi = r) (w : World) :
    Calls Try.prog 58 #[(.int .i64 x), (.int .i64 lo), (.int .i64 hi)] w fun e w' => e = .returned (.bool r) ∧ w = w' := hr ▸ l01In_any x lo hi w
end Go.Proofs.Ytfchfakkbdfajaa
