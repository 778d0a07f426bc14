/- Triples: their mathematics, the laws' helpers over them. No condition. -/
import Derived.Test.YtafmfdhogoheaaaDoorA
import Derived.Test.YtafmfdhogoheaaaDoorB3
namespace Go.Proofs.YtafmfdhogoheaaaDoor
open Go.ChangeShapes Go.WideShapes Go.ChangeAt Go.RowKit

/-- three numbers are a triple -/
def isT (x y z : Int) : Bool := decide (1 ≤ x ∧ x ≤ y ∧ y ≤ z ∧ z ≤ 1000000000 ∧ x * x + y * y + z * z = 3 * x * y * z)
namespace Tt
theorem bound (x y z : Int) (h1 : 1 ≤ x) (h2 : x ≤ y) (h3 : y ≤ z) (h : x * x + y * y + z * z = 3 * x * y * z) : x * y ≤ z := by
  by_cases hc : x * y ≤ z
  · exact hc
  · exfalso
    have h4 : z + 1 ≤ x * y := by omega
    have h5 : (z + 1) * z ≤ x * y * z := Int.mul_le_mul_of_nonneg_right h4 (by omega)
    have h6 : y * y ≤ z * z := Int.mul_le_mul h3 h3 (by omega) (by omega)
    have h7 : x * x ≤ z * z := Int.mul_le_mul (by omega) (by omega) (by omega) (by omega)
    have h8 : 3 * x * y * z = 3 * (x * y * z) := by grind
    have h9 : (z + 1) * z = z * z + z := by grind
    omega

/-- the number that takes the greatest one's place -/
theorem down (x y z : Int) (h1 : 1 ≤ x) (h2 : x ≤ y) (h3 : y ≤ z) (h : x * x + y * y + z * z = 3 * x * y * z) (hne : ¬ (x = 1 ∧ y = 1 ∧ z = 1)) :
    1 ≤ 3 * x * y - z ∧ 3 * x * y - z ≤ y ∧ y < z := by
  have hyz : y < z := by
    by_cases hc : y < z
    · exact hc
    · exfalso
      have e : y = z := by omega
      subst e
      have h5 : x * x = y * y * (3 * x - 2) := by grind
      have h6 : x * x ≤ y * y := Int.mul_le_mul h2 h2 (by omega) (by omega)
      have h7 : 1 * 1 ≤ y * y := Int.mul_le_mul (by omega) (by omega) (by omega) (by omega)
      by_cases hx : x = 1
      · subst hx
        have : y * y = 1 := by grind
        have : y ≤ 1 := by
          by_cases hy : y ≤ 1
          · exact hy
          · exfalso
            have : 2 * 2 ≤ y * y := Int.mul_le_mul (by omega) (by omega) (by omega) (by omega)
            omega
        exact hne ⟨rfl, by omega, by omega⟩
      · have h8 : y * y * 2 ≤ y * y * (3 * x - 2) := Int.mul_le_mul_of_nonneg_left (by omega) (by omega)
        omega
  have e1 : z * (3 * x * y - z) = x * x + y * y := by grind
  have q1 : 1 * 1 ≤ x * x := Int.mul_le_mul (by omega) (by omega) (by omega) (by omega)
  have q2 : 0 ≤ y * y := Int.mul_nonneg (by omega) (by omega)
  refine ⟨?_, ?_, hyz⟩
  · by_cases hc : 1 ≤ 3 * x * y - z
    · exact hc
    · exfalso
      have : z * (3 * x * y - z) ≤ z * 0 := Int.mul_le_mul_of_nonneg_left (by omega) (by omega)
      omega
  · by_cases hc : 3 * x * y - z ≤ y
    · exact hc
    · exfalso
      have p1 : 0 < (z - y) * (3 * x * y - z - y) := Int.mul_pos (by omega) (by omega)
      have p2 : (z - y) * (3 * x * y - z - y) = x * x + y * y - y * (3 * x * y) + y * y := by grind
      have p3 : y * (3 * x * y) = y * y * (3 * x) := by grind
      have p4 : y * y * 3 ≤ y * y * (3 * x) := Int.mul_le_mul_of_nonneg_left (by omega) (by omega)
      have p5 : x * x ≤ y * y := Int.mul_le_mul h2 h2 (by omega) (by omega)
      omega

/-- equal small numbers are 1 -/
theorem twins (x z : Int) (h1 : 1 ≤ x) (h3 : x ≤ z) (h : x * x + x * x + z * z = 3 * x * x * z) : x = 1 ∧ (z = 1 ∨ z = 2) := by
  have hd : x * x ∣ z * z := ⟨3 * z - 2, by grind⟩
  have hd' : x ∣ z := by
    have := (Int.pow_dvd_pow_iff (a := x) (b := z) (n := 2) (by omega)).1 (by rw [Int.pow_succ, Int.pow_succ, Int.pow_succ, Int.pow_succ]; simpa using hd)
    exact this
  obtain ⟨k, rfl⟩ := hd'
  have hx0 : x * x ≠ 0 := by
    intro e
    rcases Int.mul_eq_zero.1 e with e | e <;> omega
  have e1 : k * (3 * x - k) = 2 := by
    have : x * x * (k * (3 * x - k)) = x * x * 2 := by grind
    exact Int.eq_of_mul_eq_mul_left hx0 this
  have hk : 1 ≤ k := by
    by_cases hc : 1 ≤ k
    · exact hc
    · exfalso
      have : x * k ≤ x * 0 := Int.mul_le_mul_of_nonneg_left (by omega) (by omega)
      omega
  have hk2 : k ≤ 2 := Int.le_of_dvd (by omega) ⟨_, e1.symm⟩
  have : k = 1 ∨ k = 2 := by omega
  rcases this with rfl | rfl
  · exact ⟨by omega, .inl (by omega)⟩
  · exact ⟨by omega, .inr (by omega)⟩
end Tt

set_option maxHeartbeats 400000 in
theorem toTriple_any (a b c : Int) (w : World) :
    Calls Tryd.prog 19 #[(.agg #[.int .i64 a, .int .i64 b, .int .i64 c])] w fun e w' => e = .returned (.agg #[.int .i64 a, .int .i64 b, .int .i64 c]) ∧ Below w.heap.size w w' := by
  go_enter Tryd.func19, Tryd.ntmps19
  go_wp2
  go_rounds 4
  exact bodyPost_ret (v := (.agg #[.int .i64 a, .int .i64 b, .int .i64 c])) (by simp [results, Tryd.results19, go_sem]) rfl ⟨rfl, by repeat (first | exact own_refl _ | apply own_alloc)⟩
set_option maxHeartbeats 400000 in
theorem eqTriple_same (a b c : Int) (w : World) :
    Calls Tryd.prog 59 #[(.agg #[.int .i64 a, .int .i64 b, .int .i64 c]), (.agg #[.int .i64 a, .int .i64 b, .int .i64 c])] w fun e w' => e = .returned (.bool true) ∧ Below w.heap.size w w' := by
  go_enter Tryd.func59, Tryd.ntmps59
  go_wp2
  refine wp_loop_rounds 4 ?_
  iterate 3
    rw [rounds_succ]
    go_wp2
    go_quiet (fail)
    go_wp2
  rw [rounds_succ]
  go_wp2
  go_ret
  exact ⟨rfl, by repeat (first | with_reducible exact own_refl _ | with_reducible assumption | with_reducible apply own_alloc | with_reducible apply own_drewN | with_reducible apply own_drew | ((with_reducible refine own_setCell ?_ ?_ _); rotate_left; focus (first | (simp; done) | (simp; omega))) | (with_reducible (refine own_trans ?_ (by assumption))))⟩
end Go.Proofs.YtafmfdhogoheaaaDoor
