/- The numbers of the cusps. -/
import Derived.Test.YtfchfakkbdfajaaDoorKep
namespace Go.Proofs.YtfchfakkbdfajaaDoor
open Go.ChangeShapes Go.WideShapes Go.ChangeAt Go.RowKit

/-- the coset to which T leads the coset at a number -/
def nxT (n : Int) (j : Nat) : Nat := kOf n ((ln n).getD j (0, 0)).1 (((ln n).getD j (0, 0)).1 + ((ln n).getD j (0, 0)).2)
/-- a cusp's number written along its cosets -/
def mrk (n : Int) (c : Int) : Nat → Nat → List Int → List Int
  | 0, _, o => o
  | f + 1, j, o => if o.getD j 0 < 0 then mrk n c f (nxT n j) (o.set j c) else o
def negs (o : List Int) : Nat := o.countP fun x => decide (x < 0)
theorem negs_set {o : List Int} {j : Nat} {c : Int} (hj : j < o.length) (h : o.getD j 0 < 0) (hc : 0 ≤ c) : negs (o.set j c) < negs o := by
  have h1 : o[j] < 0 := by simpa [List.getD, List.getElem?_eq_getElem hj] using h
  have h2 : 0 < o.countP fun x => decide (x < 0) := List.countP_pos_iff.2 ⟨o[j], List.getElem_mem hj, by simpa using h1⟩
  unfold negs
  rw [List.countP_set hj]
  simp [h1, show ¬ c < 0 by omega]
  omega
theorem mrk_yes {n c : Int} {f j : Nat} {o : List Int} (h : o.getD j 0 < 0) : mrk n c (f + 1) j o = mrk n c f (nxT n j) (o.set j c) := by rw [mrk, if_pos h]
theorem mrk_no {n c : Int} {f j : Nat} {o : List Int} (h : ¬ o.getD j 0 < 0) : mrk n c f j o = o := by
  cases f
  · rfl
  · rw [mrk, if_neg h]
theorem mrk_len {n c : Int} : ∀ {f j : Nat} {o : List Int}, (mrk n c f j o).length = o.length
  | 0, _, _ => rfl
  | f + 1, j, o => by
    rw [mrk]
    split
    · rw [mrk_len, List.length_set]
    · rfl
/-- the cusps' numbers, and how many there are, behind a number of cosets -/
def cus (n : Int) : Nat → List Int × Nat
  | 0 => (List.replicate (ln n).length (-1), 0)
  | k + 1 => if (cus n k).1.getD k 0 < 0 then (mrk n (cus n k).2 ((ln n).length + 1) k (cus n k).1, (cus n k).2 + 1) else cus n k
theorem cus_len (n : Int) : ∀ k, (cus n k).1.length = (ln n).length ∧ (cus n k).2 ≤ k
  | 0 => by simp [cus]
  | k + 1 => by
    obtain ⟨h1, h2⟩ := cus_len n k
    rw [cus]
    split
    · exact ⟨by simp only [mrk_len, h1], by simp only; omega⟩
    · exact ⟨h1, by omega⟩
theorem negs_le (o : List Int) : negs o ≤ o.length := List.countP_le_length
/-- what a block's cells read as -/
def rdI (w : World) (g N : Nat) : List Int := (List.range N).map fun k => intOf ((w.cell? ⟨g, k, none⟩).getD undef)
theorem rdI_is {w : World} {g N : Nat} {o : List Int} (hl : o.length = N) (h : ∀ k, k < N → w.cell? ⟨g, k, none⟩ = some (.int .i64 (o.getD k 0))) : rdI w g N = o := by
  refine List.ext_getElem (by simp [rdI, hl]) fun k h1 h2 => ?_
  have hk : k < N := by omega
  simp [rdI, h k hk, intOf, List.getD, List.getElem?_eq_getElem h2]
theorem nxT_at {n : Int} {j : Nat} (h1 : 1 ≤ n) (hj : j < (ln n).length) : nxT n j < (ln n).length ∧ (ln n).getD (nxT n j) (0, 0) = nrm n (rst ((ln n).getD j (0, 0)).1 n) (rst (((ln n).getD j (0, 0)).1 + ((ln n).getD j (0, 0)).2) n) ∧
    isP n ((ln n).getD j (0, 0)).1 (((ln n).getD j (0, 0)).1 + ((ln n).getD j (0, 0)).2) = true := by
  obtain ⟨m1, m2, m3, m4, m5⟩ := ln_at h1 hj
  unfold nxT
  generalize ((ln n).getD j (0, 0)).1 = p at *
  generalize ((ln n).getD j (0, 0)).2 = q at *
  have m5 : isP n p (p + q) = true := by
    unfold okP isP at *
    simp only [Bool.and_eq_true] at m5
    have e : Int.gcd p (p + q) = Int.gcd p q := by simp
    rw [e]
    exact m5.1
  obtain ⟨a, b⟩ := kOf_spec h1 m5
  exact ⟨a, b, m5⟩
end Go.Proofs.YtfchfakkbdfajaaDoor
