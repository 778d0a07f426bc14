/- Contracts of square roots, rounded down, and of tests for squares, on both sides. -/
import Derived.Test.YtfpgdbdgglbleaaFmV
namespace Go.Proofs.Ytfpgdbdgglbleaa
open Go.ChangeShapes Go.WideShapes Go.ChangeAt Go.RowKit

/-- r is the root of d, rounded down -/
def Root (d r : Int) : Prop := 0 ≤ r ∧ r * r ≤ d ∧ d < (r + 1) * (r + 1)
theorem sq_mono {x y : Int} (hx : 0 ≤ x) (h : x ≤ y) : x * x ≤ y * y := Int.mul_le_mul h h hx (by omega)
theorem sq_lt {x y : Int} (hy : 0 ≤ y) (h : x * x < y * y) : x < y := by
  rcases Int.lt_or_le x y with h' | h'
  · exact h'
  · have := sq_mono hy h'; omega
theorem mul_self_nn (x : Int) : 0 ≤ x * x := by
  rcases Int.le_total 0 x with h | h
  · exact Int.mul_nonneg h h
  · exact Int.mul_nonneg_of_nonpos_of_nonpos h h
theorem root_ex (d : Int) (hd : 0 ≤ d) : ∃ r, Root d r := by
  obtain ⟨n, rfl⟩ : ∃ n : Nat, d = n := ⟨d.toNat, by omega⟩
  clear hd
  induction n with
  | zero => exact ⟨0, by omega, by omega, by omega⟩
  | succ n ih =>
    obtain ⟨r, h1, h2, h3⟩ := ih
    by_cases h : ((n + 1 : Nat) : Int) < (r + 1) * (r + 1)
    · exact ⟨r, h1, by omega, h⟩
    · refine ⟨r + 1, by omega, by omega, ?_⟩
      have : (r + 1 + 1) * (r + 1 + 1) = (r + 1) * (r + 1) + 2 * (r + 1) + 1 := by grind
      omega
theorem root_lt {d r x : Int} (h : Root d r) (hx : 0 ≤ x) (hh : d < (x + 1) * (x + 1)) : r ≤ x := by
  have := sq_lt (x := r) (y := x + 1) (by omega) (by have := h.2.1; omega)
  omega
theorem root_ge {d r x : Int} (h : Root d r) (hh : x * x ≤ d) : x ≤ r := by
  have := sq_lt (x := x) (y := r + 1) (by have := h.1; omega) (by have := h.2.2; omega)
  omega
theorem root_uniq {d r s : Int} (h : Root d r) (k : Root d s) : r = s := by
  have h1 := root_ge h k.2.1
  have h2 := root_ge k h.2.1
  omega
theorem root_bd {d r : Int} (h : Root d r) (hd : d ≤ 5000000000000) : r ≤ 2236067 := by
  have := sq_lt (x := r) (y := 2236068) (by omega) (by have := h.2.1; omega)
  omega

set_option maxHeartbeats 1000000 in
theorem sqr_lit (t : Bool) (x d : Int) (g : Nat) (h0 : 0 ≤ x) (h1 : x ≤ 3000000) (w : World) (hd : w.cell? ⟨g, 0, none⟩ = some (.int .i64 d)) (ht : decide (d < (x + 1) * (x + 1)) = t) :
    Calls Try.prog 70 #[.int .i64 x, .pointer (some ⟨g, 0, none⟩)] w fun e w' => e = .returned (.bool t) ∧ w = w' := by
  have m := mul_bd (a := x + 1) (d := x + 1) (A := 3000001) (D := 3000001) (by omega) (by omega)
  subst ht
  go_enter Try.func70, Try.ntmps70
  go_wp2
  go_ret
  exact ⟨rfl, rfl⟩

set_option maxHeartbeats 2000000 in
theorem search_sqr (d r : Int) (g : Nat) (hr : Root d r) (hd : d ≤ 5000000000000) (w : World) (hc : w.cell? ⟨g, 0, none⟩ = some (.int .i64 d)) :
    Calls Try.prog 69 #[.int .i64 3000000, .func (.func 70) #[] #[.pointer (some ⟨g, 0, none⟩)]] w fun e w' => e = .returned (.int .i64 r) ∧ w = w' := by
  have hcf : ∀ (x : Int) (w : World), (callFunc 70 #[.int .i64 x, .pointer (some ⟨g, 0, none⟩)]).run Try.prog w = .ok (.enter 70 #[.int .i64 x, .pointer (some ⟨g, 0, none⟩)]) w := fun _ _ => by kernel_rfl
  have HR := Lib.hid hr
  have HB := Lib.hid (root_bd hr hd)
  have HC := Lib.hid hc
  have h0 := hr.1
  clear hr hd hc
  go_enter Try.func69, Try.ntmps69
  go_wp2
  go_loop [5, 6] (fun i j => ∃ x y : Int, i = .int .i64 x ∧ j = .int .i64 y ∧ 0 ≤ x ∧ x ≤ r ∧ r ≤ y ∧ y ≤ 3000000) (fun i j => (intOf j - intOf i).toNat)
  case atStart => exact ⟨0, 3000000, rfl, rfl, by omega, by omega, by have := HB.out; omega, by omega⟩
  case round =>
    obtain ⟨x, y, rfl, rfl, h1, h2, h3, h4⟩ := hrel
    by_cases hlt : x < y
    · rcases ht : decide (d < ((x + y) / 2 + 1) * ((x + y) / 2 + 1)) with _ | _
      · have HK : Hid ((x + y) / 2 + 1 ≤ r) := Lib.hid (by
          have h5 : ¬ (d < ((x + y) / 2 + 1) * ((x + y) / 2 + 1)) := of_decide_eq_false ht
          exact root_ge HR.out (by omega))
        have HT := Lib.hid ht
        clear ht
        go_wp2_with fail
        refine (sqr_lit false _ d g (by omega) (by omega) _ HC.out HT.out).mono ?_
        rintro e w1 ⟨rfl, rfl⟩
        go_wp2
        go_round
        case rel => exact ⟨_, _, rfl, rfl, by omega, HK.out, h3, h4⟩
        case measure => simp [intOf]; omega
      · have HK : Hid (r ≤ (x + y) / 2) := Lib.hid (root_lt HR.out (by omega) (of_decide_eq_true ht))
        have HT := Lib.hid ht
        clear ht
        go_wp2_with fail
        refine (sqr_lit true _ d g (by omega) (by omega) _ HC.out HT.out).mono ?_
        rintro e w1 ⟨rfl, rfl⟩
        go_wp2
        go_round
        case rel => exact ⟨_, _, rfl, rfl, h1, h2, HK.out, by omega⟩
        case measure => simp [intOf]; omega
    · go_wp2
      go_ret
      exact ⟨ret_int (by omega), rfl⟩
set_option maxHeartbeats 1000000 in
theorem squareRoot_is (d r : Int) (hr : Root d r) (hd : d ≤ 5000000000000) (w : World) :
    Calls Try.prog 65 #[(.int .i64 d)] w fun e w' => e = .returned (.int .i64 r) ∧ Below w.heap.size w w' := by
  have hmf : ∀ (fn : Fn) (first cap : Array Value) (w : World), (Instr.makeFunc fn first cap).run Try.prog w = .ok (.func fn first cap) w := fun _ _ _ _ => rfl
  have HS := Lib.hid (fun g w hc => search_sqr d r g hr hd w hc)
  clear hr hd
  go_enter Try.func65, Try.ntmps65
  go_wp2_with fail
  refine (HS.out _ _ (by simp)).mono ?_
  rintro e w1 ⟨rfl, rfl⟩
  go_wp2
  go_ret
  exact ⟨rfl, by repeat (first | with_reducible exact own_refl _ | with_reducible assumption | with_reducible apply own_alloc | with_reducible apply own_drewN | with_reducible apply own_drew | ((with_reducible refine own_setCell ?_ ?_ _); rotate_left; focus (first | (simp; done) | (simp; omega))) | (with_reducible (refine own_trans ?_ (by assumption))))⟩
set_option maxHeartbeats 1000000 in
theorem isSquare_neg (d : Int) (hd : d < 0) (w : World) :
    Calls Try.prog 61 #[(.int .i64 d)] w fun e w' => e = .returned (.bool false) ∧ Below w.heap.size w w' := by
  go_enter Try.func61, Try.ntmps61
  go_wp2
  go_ret
  exact ⟨rfl, by repeat (first | with_reducible exact own_refl _ | with_reducible assumption | with_reducible apply own_alloc | with_reducible apply own_drewN | with_reducible apply own_drew | ((with_reducible refine own_setCell ?_ ?_ _); rotate_left; focus (first | (simp; done) | (simp; omega))) | (with_reducible (refine own_trans ?_ (by assumption))))⟩
set_option maxHeartbeats 1000000 in
theorem isSquare_is (t : Bool) (d r : Int) (hr : Root d r) (hd : d ≤ 5000000000000) (ht : (r * r == d) = t) (w : World) :
    Calls Try.prog 61 #[(.int .i64 d)] w fun e w' => e = .returned (.bool t) ∧ Below w.heap.size w w' := by
  have h0 : ¬ d < 0 := by have := hr.2.1; have := mul_self_nn r; omega
  have h1 := hr.1
  have h2 := root_bd hr hd
  have h3 := mul_bd (a := r) (d := r) (A := 2236067) (D := 2236067) (by omega) (by omega)
  have HS := Lib.hid (fun w => squareRoot_is d r hr hd w)
  clear hr hd
  go_enter Try.func61, Try.ntmps61
  go_wp2_with fail
  refine (HS.out _).mono ?_
  rintro e w1 ⟨rfl, hb1⟩
  go_wp2
  go_ret
  exact ⟨rfl, by repeat (first | with_reducible exact own_refl _ | with_reducible assumption | with_reducible apply own_alloc | with_reducible apply own_drewN | with_reducible apply own_drew | ((with_reducible refine own_setCell ?_ ?_ _); rotate_left; focus (first | (simp; done) | (simp; omega))) | (with_reducible (refine own_trans ?_ (by assumption))))⟩

theorem halve {s : Int} {k : Nat} (h : s = 2 ^ (k + 1)) : s.tdiv 2 = 2 ^ k := by
  subst h
  rw [Int.pow_succ, Int.mul_tdiv_cancel _ (by omega)]
set_option maxHeartbeats 2000000 in
theorem l05Square_is (t : Bool) (d r : Int) (hr : Root d r) (hd : d ≤ 5000000000000) (ht : (r * r == d) = t) (w : World) :
    Calls Try.prog 60 #[(.int .i64 d)] w fun e w' => e = .returned (.bool t) ∧ Below w.heap.size w w' := by
  have h1 := hr.1
  have h2 := root_bd hr hd
  have h3 := mul_bd (a := r) (d := r) (A := 2236067) (D := 2236067) (by omega) (by omega)
  have HR := Lib.hid hr
  clear hr
  go_enter Try.func60, Try.ntmps60
  go_wp2
  -- n < (x + 2 s)^2, or s = 0 and n < (x + 1)^2
  go_loop [3, 4] (fun x s => ∃ y z : Int, x = (.int .i64 y) ∧ s = (.int .i64 z) ∧ 0 ≤ y ∧ y ≤ r ∧ 0 ≤ z ∧ z ≤ 2147483648 ∧ ((z = 0 ∧ r < y + 1) ∨ ∃ k : Nat, z = 2 ^ k ∧ r < y + 2 * z)) (fun _ s => (intOf s).toNat)
  case atStart => exact ⟨0, 2147483648, rfl, rfl, by omega, h1, by omega, by omega, .inr ⟨31, rfl, by omega⟩⟩
  case round =>
    obtain ⟨y, z, rfl, rfl, h4, h5, h6, h7, h8⟩ := hrel
    have m := mul_bd (a := y + z) (d := y + z) (A := 2149719715) (D := 2149719715) (by omega) (by omega)
    rcases h8 with ⟨h8, h9⟩ | ⟨k, h8, h9⟩
    · subst h8
      obtain rfl : y = r := by omega
      go_wp2
      go_ret
      exact ⟨rfl, by repeat (first | with_reducible exact own_refl _ | with_reducible assumption | with_reducible apply own_alloc | with_reducible apply own_drewN | with_reducible apply own_drew | ((with_reducible refine own_setCell ?_ ?_ _); rotate_left; focus (first | (simp; done) | (simp; omega))) | (with_reducible (refine own_trans ?_ (by assumption))))⟩
    · have hz : 0 < z := by rw [h8]; exact Int.pow_pos (by omega)
      have H8 := Lib.hid h8
      clear h8
      have hq : 0 ≤ z.tdiv 2 ∧ z.tdiv 2 ≤ 1073741824 ∧ z.tdiv 2 < z := by rw [Int.tdiv_eq_ediv_of_nonneg h6]; omega
      have HN : Hid ((z.tdiv 2 = 0 ∧ z = 1) ∨ ∃ j : Nat, z.tdiv 2 = 2 ^ j ∧ z = 2 * z.tdiv 2) := Lib.hid (by
        have h8 := H8.out
        cases k with
        | zero => left; have : z = 1 := h8; subst this; exact ⟨rfl, rfl⟩
        | succ j => right; refine ⟨j, halve h8, ?_⟩; rw [halve h8, h8, Int.pow_succ]; omega)
      by_cases hb : (y + z) * (y + z) ≤ d
      · have h10 : Hid (y + z ≤ r) := Lib.hid (root_ge HR.out hb)
        go_wp2
        go_round
        case rel =>
          have h10 := h10.out
          refine ⟨_, _, rfl, rfl, by omega, h10, hq.1, by omega, ?_⟩
          rcases HN.out with ⟨n1, n2⟩ | ⟨j, n1, n2⟩
          · left; omega
          · right; exact ⟨j, n1, by omega⟩
        case measure => simp [intOf]; omega
      · have h10 : Hid (r < y + z) := Lib.hid (by
          have := HR.out.2.1
          exact sq_lt (by omega) (by omega))
        go_wp2
        go_round
        case rel =>
          have h10 := h10.out
          refine ⟨_, _, rfl, rfl, h4, h5, hq.1, by omega, ?_⟩
          rcases HN.out with ⟨n1, n2⟩ | ⟨j, n1, n2⟩
          · left; omega
          · right; exact ⟨j, n1, by omega⟩
        case measure => simp [intOf]; omega
end Go.Proofs.Ytfpgdbdgglbleaa
