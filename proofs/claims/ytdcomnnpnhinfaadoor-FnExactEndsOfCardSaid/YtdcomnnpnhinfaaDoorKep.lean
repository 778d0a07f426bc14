/- CountKept: contracts of both sides. -/
import Derived.Test.YtdcomnnpnhinfaaDoorLed
import Derived.Test.YtdcomnnpnhinfaaDoorMS
import Derived.Test.YtdcomnnpnhinfaaDoorLnS
import Derived.Test.YtdcomnnpnhinfaaDoorCo
import Derived.Test.YtdcomnnpnhinfaaDoorNamed
import Derived.OwnWalk
namespace Go.Proofs.YtdcomnnpnhinfaaDoor
open Go.ChangeShapes Go.WideShapes Go.ChangeAt Go.RowKit
theorem prs_get {l : List (Int × Int)} {k : Nat} (h : k < l.length) : (prs l).getD k [] = [(l.getD k (0, 0)).1, (l.getD k (0, 0)).2] := by
  simp [prs, List.getD, List.getElem?_map, List.getElem?_eq_getElem h]
theorem rowL_mem {n c : Int} : ∀ {k : Nat} {p : Int × Int}, p ∈ rowL n c k → p.1 = c ∧ 0 ≤ p.2 ∧ p.2 < k ∧ okP n p.1 p.2 = true
  | 0, p, h => by simp [rowL] at h
  | k + 1, p, h => by
    rw [rowL] at h
    split at h
    · rename_i ho
      simp only [List.mem_append, List.mem_singleton] at h
      rcases h with h | rfl
      · obtain ⟨a, b, c, d⟩ := rowL_mem h
        exact ⟨a, b, by omega, d⟩
      · exact ⟨rfl, by simp, by simp; omega, ho⟩
    · obtain ⟨a, b, c, d⟩ := rowL_mem h
      exact ⟨a, b, by omega, d⟩
theorem lnL_mem {n : Int} : ∀ {k : Nat} {p : Int × Int}, p ∈ lnL n k → 0 ≤ p.1 ∧ p.1 < k ∧ 0 ≤ p.2 ∧ p.2 < n.toNat ∧ okP n p.1 p.2 = true
  | 0, p, h => by simp [lnL] at h
  | k + 1, p, h => by
    rw [lnL, List.mem_append] at h
    rcases h with h | h
    · obtain ⟨a, b, c, d, e⟩ := lnL_mem h
      exact ⟨a, by omega, c, d, e⟩
    · obtain ⟨a, b, c, d⟩ := rowL_mem h
      exact ⟨by omega, by omega, b, by omega, d⟩
theorem ln_at {n : Int} (h1 : 1 ≤ n) {k : Nat} (h : k < (ln n).length) : 0 ≤ ((ln n).getD k (0, 0)).1 ∧ ((ln n).getD k (0, 0)).1 < n ∧ 0 ≤ ((ln n).getD k (0, 0)).2 ∧ ((ln n).getD k (0, 0)).2 < n ∧ okP n ((ln n).getD k (0, 0)).1 ((ln n).getD k (0, 0)).2 = true := by
  have e : (ln n).getD k (0, 0) = (ln n)[k] := by simp [List.getD, List.getElem?_eq_getElem h]
  rw [e]
  obtain ⟨a, b, c, d, f⟩ := lnL_mem (n := n) (k := n.toNat) (p := (ln n)[k]) (List.getElem_mem h)
  exact ⟨a, by omega, c, by omega, f⟩



/-- how many numbers of a list stand at their own place -/
def cntF (xs : List Int) : Nat → Nat
  | 0 => 0
  | k + 1 => if xs.getD k 0 = (k : Int) then cntF xs k + 1 else cntF xs k
theorem cntF_yes {xs : List Int} {k : Nat} {s : Int} (h : xs.getD k 0 = (k : Int)) (hs : (cntF xs k : Int) = s) : (cntF xs (k + 1) : Int) = s + 1 := by
  rw [cntF, if_pos h, ← hs]
  simp
theorem cntF_no {xs : List Int} {k : Nat} {s : Int} (h : ¬ xs.getD k 0 = (k : Int)) (hs : (cntF xs k : Int) = s) : (cntF xs (k + 1) : Int) = s := by
  rw [cntF, if_neg h, hs]
theorem gcd_S (c d : Int) : Int.gcd d (-c) = Int.gcd c d := by rw [Int.gcd_neg, Int.gcd_comm]
theorem gcd_U (c d : Int) : Int.gcd (c + d) (-c) = Int.gcd c d := by
  rw [Int.gcd_neg, Int.gcd_comm]
  simp
theorem isP_S {n c d : Int} (h : isP n c d = true) : isP n d (-c) = true := by unfold isP at *; rw [gcd_S]; exact h
theorem isP_U {n c d : Int} (h : isP n c d = true) : isP n (c + d) (-c) = true := by unfold isP at *; rw [gcd_U]; exact h
theorem ledL_at (n a b c d : Int) {l : List (Int × Int)} {k : Nat} (h : k < l.length) : (ledL n a b c d l).getD k 0 = (kOf n ((l.getD k (0, 0)).1 * a + (l.getD k (0, 0)).2 * c) ((l.getD k (0, 0)).1 * b + (l.getD k (0, 0)).2 * d) : Int) := by
  simp [ledL, List.getD, List.getElem?_map, List.getElem?_eq_getElem h]
end Go.Proofs.YtdcomnnpnhinfaaDoor
