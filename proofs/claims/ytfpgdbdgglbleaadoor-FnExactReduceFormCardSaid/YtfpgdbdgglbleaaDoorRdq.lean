/- Contracts of the tests for definite, indefinite and reduced forms, on both sides. -/
import Derived.Test.YtfpgdbdgglbleaaDoorSqr
import Derived.Test.YtfpgdbdgglbleaaDoorAbs
namespace Go.Proofs.YtfpgdbdgglbleaaDoor
open Go.ChangeShapes Go.WideShapes Go.ChangeAt Go.RowKit

/-- d is a square -/
def isq (d : Int) : Bool := (List.range (d.toNat + 1)).any fun r => (r : Int) * r == d
theorem isq_root {d r : Int} (h : Root d r) : isq d = (r * r == d) := by
  unfold isq
  rw [Bool.eq_iff_iff, List.any_eq_true, beq_iff_eq]
  constructor
  · rintro ⟨x, _, hx⟩
    have hx : (x : Int) * x = d := by simpa using hx
    have e1 : ((x : Int) + 1) * (x + 1) = x * x + 2 * x + 1 := by grind
    have : (x : Int) = r := root_uniq (d := d) ⟨by omega, by omega, by omega⟩ h
    rw [← this]; exact hx
  · intro hr
    have h0 := h.1
    refine ⟨r.toNat, ?_, ?_⟩
    · rw [List.mem_range]
      have : r ≤ r * r := by
        rcases Int.lt_or_le r 1 with h1 | h1
        · have : r = 0 := by omega
          subst this; omega
        · have := Int.mul_le_mul_of_nonneg_left h1 h0
          omega
      omega
    · rw [Int.toNat_of_nonneg h0]; simpa using hr
def indef (a b c : Int) : Bool := decide (0 < disc a b c) && !isq (disc a b c)

set_option maxHeartbeats 1000000 in
theorem isDefinite_is (t : Bool) (a b c : Int) (ht : (decide (disc a b c < 0) && decide (0 < a)) = t) (ha : FE a) (hb : FE b) (hc : FE c) (w : World) :
    Calls Tryd.prog 23 #[(.agg #[.int .i64 a, .int .i64 b, .int .i64 c])] w fun e w' => e = .returned (.bool t) ∧ Below w.heap.size w w' := by
  obtain ⟨d, hd⟩ : ∃ d, disc a b c = d := ⟨_, rfl⟩
  rw [hd] at ht
  have HD := Lib.hid (fun w => discriminant_is d a b c hd ha hb hc w)
  clear ha hb hc hd
  by_cases h1 : d < 0
  · by_cases h2 : 0 < a
    · have : t = true := by simpa [h1, h2] using ht.symm
      subst this
      clear ht
      go_enter Tryd.func23, Tryd.ntmps23
      go_wp2_with fail
      refine (HD.out _).mono ?_
      rintro e w1 ⟨rfl, hb1⟩
      have Bw1_0 : Box w1 (w.heap.size) [.int .i64 a, .int .i64 b, .int .i64 c] := by refine Box.below ?_ hb1; repeat (first | with_reducible assumption | with_reducible exact Box.new _ _ _ | (with_reducible refine Box.newAt ?_ _ _; (simp; done)) | with_reducible apply Box.alloc | with_reducible apply Box.drewN | with_reducible apply Box.drew)
      obtain ⟨_, _, _, _, _, _, _⟩ := Bw1_0.three
      go_wp2
      go_ret
      exact ⟨rfl, by repeat (first | with_reducible exact own_refl _ | with_reducible assumption | with_reducible apply own_alloc | with_reducible apply own_drewN | with_reducible apply own_drew | ((with_reducible refine own_setCell ?_ ?_ _); rotate_left; focus (first | (simp; done) | (simp; omega))) | (with_reducible (refine own_trans ?_ (by assumption))))⟩
    · have : t = false := by simpa [h1, h2] using ht.symm
      subst this
      clear ht
      go_enter Tryd.func23, Tryd.ntmps23
      go_wp2_with fail
      refine (HD.out _).mono ?_
      rintro e w1 ⟨rfl, hb1⟩
      have Bw1_0 : Box w1 (w.heap.size) [.int .i64 a, .int .i64 b, .int .i64 c] := by refine Box.below ?_ hb1; repeat (first | with_reducible assumption | with_reducible exact Box.new _ _ _ | (with_reducible refine Box.newAt ?_ _ _; (simp; done)) | with_reducible apply Box.alloc | with_reducible apply Box.drewN | with_reducible apply Box.drew)
      obtain ⟨_, _, _, _, _, _, _⟩ := Bw1_0.three
      go_wp2
      go_ret
      exact ⟨ret_bool (by simpa using h2), by repeat (first | with_reducible exact own_refl _ | with_reducible assumption | with_reducible apply own_alloc | with_reducible apply own_drewN | with_reducible apply own_drew | ((with_reducible refine own_setCell ?_ ?_ _); rotate_left; focus (first | (simp; done) | (simp; omega))) | (with_reducible (refine own_trans ?_ (by assumption))))⟩
  · have : t = false := by simpa [h1] using ht.symm
    subst this
    clear ht
    go_enter Tryd.func23, Tryd.ntmps23
    go_wp2_with fail
    refine (HD.out _).mono ?_
    rintro e w1 ⟨rfl, hb1⟩
    go_wp2
    go_ret
    exact ⟨rfl, by repeat (first | with_reducible exact own_refl _ | with_reducible assumption | with_reducible apply own_alloc | with_reducible apply own_drewN | with_reducible apply own_drew | ((with_reducible refine own_setCell ?_ ?_ _); rotate_left; focus (first | (simp; done) | (simp; omega))) | (with_reducible (refine own_trans ?_ (by assumption))))⟩
set_option maxHeartbeats 1000000 in
theorem l05Definite_is (t : Bool) (a b c : Int) (ht : (decide (disc a b c < 0) && decide (0 < a)) = t) (ha : FE a) (hb : FE b) (hc : FE c) (w : World) :
    Calls Tryd.prog 20 #[(.agg #[.int .i64 a, .int .i64 b, .int .i64 c])] w fun e w' => e = .returned (.bool t) ∧ Below w.heap.size w w' := by
  obtain ⟨d, hd⟩ : ∃ d, disc a b c = d := ⟨_, rfl⟩
  rw [hd] at ht
  have HD := Lib.hid (fun w => l05Disc_is d a b c hd ha hb hc w)
  clear ha hb hc hd
  by_cases h1 : d < 0
  · by_cases h2 : 0 < a
    · have : t = true := by simpa [h1, h2] using ht.symm
      subst this
      clear ht
      go_enter Tryd.func20, Tryd.ntmps20
      go_wp2_with fail
      refine (HD.out _).mono ?_
      rintro e w1 ⟨rfl, hb1⟩
      have Bw1_0 : Box w1 (w.heap.size) [.int .i64 a, .int .i64 b, .int .i64 c] := by refine Box.below ?_ hb1; repeat (first | with_reducible assumption | with_reducible exact Box.new _ _ _ | (with_reducible refine Box.newAt ?_ _ _; (simp; done)) | with_reducible apply Box.alloc | with_reducible apply Box.drewN | with_reducible apply Box.drew)
      obtain ⟨_, _, _, _, _, _, _⟩ := Bw1_0.three
      go_wp2
      go_ret
      exact ⟨rfl, by repeat (first | with_reducible exact own_refl _ | with_reducible assumption | with_reducible apply own_alloc | with_reducible apply own_drewN | with_reducible apply own_drew | ((with_reducible refine own_setCell ?_ ?_ _); rotate_left; focus (first | (simp; done) | (simp; omega))) | (with_reducible (refine own_trans ?_ (by assumption))))⟩
    · have : t = false := by simpa [h1, h2] using ht.symm
      subst this
      clear ht
      go_enter Tryd.func20, Tryd.ntmps20
      go_wp2_with fail
      refine (HD.out _).mono ?_
      rintro e w1 ⟨rfl, hb1⟩
      have Bw1_0 : Box w1 (w.heap.size) [.int .i64 a, .int .i64 b, .int .i64 c] := by refine Box.below ?_ hb1; repeat (first | with_reducible assumption | with_reducible exact Box.new _ _ _ | (with_reducible refine Box.newAt ?_ _ _; (simp; done)) | with_reducible apply Box.alloc | with_reducible apply Box.drewN | with_reducible apply Box.drew)
      obtain ⟨_, _, _, _, _, _, _⟩ := Bw1_0.three
      go_wp2
      go_ret
      exact ⟨ret_bool (by simpa using h2), by repeat (first | with_reducible exact own_refl _ | with_reducible assumption | with_reducible apply own_alloc | with_reducible apply own_drewN | with_reducible apply own_drew | ((with_reducible refine own_setCell ?_ ?_ _); rotate_left; focus (first | (simp; done) | (simp; omega))) | (with_reducible (refine own_trans ?_ (by assumption))))⟩
  · have : t = false := by simpa [h1] using ht.symm
    subst this
    clear ht
    go_enter Tryd.func20, Tryd.ntmps20
    go_wp2_with fail
    refine (HD.out _).mono ?_
    rintro e w1 ⟨rfl, hb1⟩
    go_wp2
    go_ret
    exact ⟨rfl, by repeat (first | with_reducible exact own_refl _ | with_reducible assumption | with_reducible apply own_alloc | with_reducible apply own_drewN | with_reducible apply own_drew | ((with_reducible refine own_setCell ?_ ?_ _); rotate_left; focus (first | (simp; done) | (simp; omega))) | (with_reducible (refine own_trans ?_ (by assumption))))⟩
/-- reduced, for a form with a discriminant less than 0 -/
def redD (a b c : Int) : Bool := decide ((b.natAbs : Int) ≤ a ∧ a ≤ c ∧ (0 ≤ b ∨ (-b ≠ a ∧ a ≠ c)))
theorem redD_cases (a b c : Int) (t : Bool) (ht : redD a b c = t) :
    (a < b.natAbs ∧ t = false) ∨ ((b.natAbs : Int) ≤ a ∧ c < a ∧ t = false) ∨ ((b.natAbs : Int) ≤ a ∧ a ≤ c ∧ 0 ≤ b ∧ t = true) ∨ ((b.natAbs : Int) ≤ a ∧ a ≤ c ∧ b < 0 ∧ a ≤ -b ∧ t = false) ∨
      ((b.natAbs : Int) ≤ a ∧ a ≤ c ∧ b < 0 ∧ -b < a ∧ c ≤ a ∧ t = false) ∨ ((b.natAbs : Int) ≤ a ∧ a < c ∧ b < 0 ∧ -b < a ∧ t = true) := by
  subst ht
  unfold redD
  by_cases h1 : (b.natAbs : Int) ≤ a
  · by_cases h2 : a ≤ c
    · by_cases h3 : 0 ≤ b
      · have : decide ((b.natAbs : Int) ≤ a ∧ a ≤ c ∧ (0 ≤ b ∨ (-b ≠ a ∧ a ≠ c))) = true := decide_eq_true ⟨h1, h2, .inl h3⟩
        rw [this]; simp; omega
      · by_cases h4 : -b = a
        · have : decide ((b.natAbs : Int) ≤ a ∧ a ≤ c ∧ (0 ≤ b ∨ (-b ≠ a ∧ a ≠ c))) = false := decide_eq_false (by omega)
          rw [this]; simp; omega
        · by_cases h5 : a = c
          · have : decide ((b.natAbs : Int) ≤ a ∧ a ≤ c ∧ (0 ≤ b ∨ (-b ≠ a ∧ a ≠ c))) = false := decide_eq_false (by omega)
            rw [this]; simp; omega
          · have : decide ((b.natAbs : Int) ≤ a ∧ a ≤ c ∧ (0 ≤ b ∨ (-b ≠ a ∧ a ≠ c))) = true := decide_eq_true (by omega)
            rw [this]; simp; omega
    · have : decide ((b.natAbs : Int) ≤ a ∧ a ≤ c ∧ (0 ≤ b ∨ (-b ≠ a ∧ a ≠ c))) = false := decide_eq_false (by omega)
      rw [this]; simp; omega
  · have : decide ((b.natAbs : Int) ≤ a ∧ a ≤ c ∧ (0 ≤ b ∨ (-b ≠ a ∧ a ≠ c))) = false := decide_eq_false (by omega)
    rw [this]; simp; omega

/-- reduced, for a form with a discriminant d greater than 0, n being twice its first number without its sign -/
def redI (n b d : Int) : Bool := decide (0 < b) && (decide (b * b < d) && (decide (d < (n + b) * (n + b)) && (decide (n < b) || decide ((n - b) * (n - b) < d))))
theorem redI_cases (n b d : Int) (t : Bool) (ht : redI n b d = t) :
    (b ≤ 0 ∧ t = false) ∨ (0 < b ∧ d ≤ b * b ∧ t = false) ∨ (0 < b ∧ b * b < d ∧ (n + b) * (n + b) ≤ d ∧ t = false) ∨ (0 < b ∧ b * b < d ∧ d < (n + b) * (n + b) ∧ n < b ∧ t = true) ∨
      (0 < b ∧ b * b < d ∧ d < (n + b) * (n + b) ∧ b ≤ n ∧ (n - b) * (n - b) < d ∧ t = true) ∨ (0 < b ∧ b * b < d ∧ d < (n + b) * (n + b) ∧ b ≤ n ∧ d ≤ (n - b) * (n - b) ∧ t = false) := by
  subst ht
  unfold redI
  by_cases h1 : 0 < b
  · by_cases h2 : b * b < d
    · by_cases h3 : d < (n + b) * (n + b)
      · by_cases h4 : n < b
        · simp [h1, h2, h3, h4]
        · by_cases h5 : (n - b) * (n - b) < d
          · simp [h1, h2, h3, h4, h5]; omega
          · simp [h1, h2, h3, h4, h5]; omega
      · simp [h1, h2, h3]; omega
    · simp [h1, h2]; omega
  · simp [h1]; omega
/-- the form is reduced, if its discriminant is greater than 0 -/
def rdI (a b c : Int) : Bool := redI (2 * (a.natAbs : Int)) b (disc a b c)

end Go.Proofs.YtfpgdbdgglbleaaDoor
