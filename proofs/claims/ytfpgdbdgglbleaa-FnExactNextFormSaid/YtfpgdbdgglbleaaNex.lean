/- Contracts of the next form, on both sides. -/
import Derived.Test.YtfpgdbdgglbleaaRdS
import Derived.Test.YtfpgdbdgglbleaaRdI
import Derived.Test.YtfpgdbdgglbleaaApl
import Derived.Test.YtfpgdbdgglbleaaRest
import Derived.Test.YtfpgdbdgglbleaaLow
namespace Go.Proofs.Ytfpgdbdgglbleaa
open Go.ChangeShapes Go.WideShapes Go.ChangeAt Go.RowKit

def nx1 (b c r : Int) : Int := r - (r + b) % (2 * c)
def nx2 (b c r d : Int) : Int := (nx1 b c r * nx1 b c r - d).tdiv (4 * c)
theorem l01Mod_gen (x n : Int) (h1 : 1 ≤ n) (h2 : n ≤ 4000000000000000000) (hx : I64 x) (w : World) :
    Calls Try.prog 63 #[(.int .i64 x), (.int .i64 n)] w fun e w' => e = .returned (.int .i64 (rst x n)) ∧ w = w' := by
  obtain ⟨_, _⟩ := hx
  obtain ⟨_, _⟩ := rem_bd (x := x) h1
  have h3 : 0 ≤ x.tmod n + n := by omega
  go_enter Try.func63, Try.ntmps63
  go_wp2
  go_ret
  exact ⟨rfl, rfl⟩
theorem indef_c {a b c : Int} (h : indef a b c = true) : c ≠ 0 := by
  rintro rfl
  obtain ⟨r, hr, h0⟩ : ∃ r : Int, r * r = b * b ∧ 0 ≤ r := by
    rcases Int.le_total 0 b with h1 | h1
    · exact ⟨b, rfl, h1⟩
    · exact ⟨-b, by rw [Int.neg_mul_neg], by omega⟩
  have e : (r + 1) * (r + 1) = r * r + 2 * r + 1 := by grind
  have := isq_root (d := disc a b 0) (r := r) ⟨h0, by unfold disc; omega, by unfold disc; omega⟩
  unfold indef at h
  rw [this] at h
  unfold disc at h
  simp [hr] at h
theorem tmod_bd {x c : Int} (hx : 0 ≤ x) (hc : c ≠ 0) (hk : FE c) : 0 ≤ x % (2 * c) ∧ x % (2 * c) < 2000001 := by
  rw [← Int.tmod_eq_emod_of_nonneg hx]
  have h1 := Int.tmod_nonneg (2 * c) hx
  have h3 : (x.tmod (2 * c)).natAbs = x.natAbs % (2 * c).natAbs := Int.natAbs_tmod x _
  have h4 : x.natAbs % (2 * c).natAbs < (2 * c).natAbs := Nat.mod_lt _ (by omega)
  unfold FE at hk
  omega
theorem rst_tmod {x c m : Int} (hx : 0 ≤ x) (_ : c ≠ 0) (hm : m = 2 * (c.natAbs : Int)) : rst x m = x % (2 * c) := by
  subst hm
  unfold rst
  have h1 : x.tmod (2 * (c.natAbs : Int)) = x % (2 * (c.natAbs : Int)) := Int.tmod_eq_emod_of_nonneg hx
  have e : x % (2 * (c.natAbs : Int)) = x % (2 * c) := by
    rcases Int.le_total 0 c with h | h
    · rw [show (2 * (c.natAbs : Int)) = 2 * c by omega]
    · rw [show (2 * (c.natAbs : Int)) = -(2 * c) by omega, Int.emod_neg]
  rw [h1, Int.add_emod_right, Int.emod_emod, e]

set_option maxHeartbeats 2000000 in
theorem formBehind_is (a b c d r : Int) (hd : disc a b c = d) (hr : Root d r) (hb0 : 0 < b) (hc0 : c ≠ 0) (ha : FE a) (hb : FE b) (hc : FE c) (w : World) :
    Calls Try.prog 55 #[(.agg #[.int .i64 a, .int .i64 b, .int .i64 c])] w fun e w' => e = .returned (.agg #[.int .i64 c, .int .i64 (nx1 b c r), .int .i64 (nx2 b c r d)]) ∧ Below w.heap.size w w' := by
  have hbd := disc_bd ha hb hc
  rw [hd] at hbd
  have hr0 := hr.1
  have hr1 := root_bd hr hbd.2
  have HD := Lib.hid (fun w => discriminant_is d a b c hd ha hb hc w)
  have HS := Lib.hid (fun w => squareRoot_is d r hr hbd.2 w)
  have kb : -1000000 ≤ b ∧ b ≤ 1000000 := hb
  have kc : -1000000 ≤ c ∧ c ≤ 1000000 := hc
  have m1 := tmod_bd (x := r + b) (c := c) (by omega) hc0 hc
  have z1 : ((2 * c) == 0) = false := by rw [beq_eq_false_iff_ne]; omega
  have z2 : ((4 * c) == 0) = false := by rw [beq_eq_false_iff_ne]; omega
  have z3 : ¬ 2 * c = 0 := by omega
  have z4 : ¬ 4 * c = 0 := by omega
  have m2 := mul_bd (a := r - (r + b) % (2 * c)) (d := r - (r + b) % (2 * c)) (A := 2236068) (D := 2236068) (by omega) (by omega)
  have m3 := tdiv_bd (x := (r - (r + b) % (2 * c)) * (r - (r + b) % (2 * c)) - d) (d := 4 * c) (by unfold Mid; omega)
  unfold Mid at m3
  clear hd hr ha hb hc
  go_enter Try.func55, Try.ntmps55
  go_upto_region 1 with fail
  have BF : Box ((w.alloc (.cells #[.int .i64 a, .int .i64 b, .int .i64 c] 24)).alloc (.cells #[.int .i64 0, .int .i64 0, .int .i64 0] 24)) w.heap.size [.int .i64 a, .int .i64 b, .int .i64 c] := Box.alloc (Box.new _ _ _) _
  have BZ : Box ((w.alloc (.cells #[.int .i64 a, .int .i64 b, .int .i64 c] 24)).alloc (.cells #[.int .i64 0, .int .i64 0, .int .i64 0] 24)) (w.heap.size + 1) [.int .i64 0, .int .i64 0, .int .i64 0] := Box.newAt (by simp) _ _
  have T : Below w.heap.size w ((w.alloc (.cells #[.int .i64 a, .int .i64 b, .int .i64 c] 24)).alloc (.cells #[.int .i64 0, .int .i64 0, .int .i64 0] 24)) := own_alloc (own_alloc (own_refl _) _) _
  generalize World.alloc _ (.cells #[.int .i64 0, .int .i64 0, .int .i64 0] 24) = wd at T BF BZ ⊢
  obtain ⟨_, _, _, _, _, _, _⟩ := BF.three
  go_region_held3 (fun w' => w'.cell? ⟨w.heap.size, 0, none⟩ = some (.int .i64 a) ∧ w'.cell? ⟨w.heap.size, 1, none⟩ = some (.int .i64 b) ∧ w'.cell? ⟨w.heap.size, 2, none⟩ = some (.int .i64 c)) (go_keep)
    (first
      | (go_at_call 36; refine (HD.out _).mono ?_; rintro e w2 ⟨rfl, hb2⟩; have T := (by first | exact own_trans T hb2 | exact own_trans (own_drew T) hb2 : Below w.heap.size w w2); have BF := Box.below (by first | exact BF | exact Box.drew BF) hb2; have BZ := Box.below (by first | exact BZ | exact Box.drew BZ) hb2; obtain ⟨_, _, _, _, _, _, _⟩ := BF.three))
  all_goals
    go_wp2_with fail
    refine (HS.out _).mono ?_
    rintro e w3 ⟨rfl, hb3⟩
    have T := own_trans T hb3
    have BZ := BZ.below hb3
    obtain ⟨_, _, _, _, _, _, _⟩ := BZ.three
    go_wp2
    obtain ⟨_, e0, e1, e2, _, _, _⟩ := (BZ.put3 (.int .i64 c) (.int .i64 (r - (r + b) % (2 * c))) (.int .i64 (((r - (r + b) % (2 * c)) * (r - (r + b) % (2 * c)) - d).tdiv (4 * c)))).three
    exact bodyPost_ret (v := (.agg #[.int .i64 c, .int .i64 (r - (r + b) % (2 * c)), .int .i64 (((r - (r + b) % (2 * c)) * (r - (r + b) % (2 * c)) - d).tdiv (4 * c))])) (by simp [results, Try.results55, go_sem, e0, e1, e2]) rfl ⟨rfl, by repeat (first | with_reducible exact own_refl _ | with_reducible assumption | with_reducible apply own_alloc | with_reducible apply own_drewN | with_reducible apply own_drew | ((with_reducible refine own_setCell ?_ ?_ _); rotate_left; focus (first | (simp; done) | (simp; omega))) | (with_reducible (refine own_trans ?_ (by assumption))))⟩

set_option maxHeartbeats 4000000 in
theorem l05Next_is (a b c d r : Int) (hd : disc a b c = d) (hr : Root d r) (hb0 : 0 < b) (hc0 : c ≠ 0) (ha : FE a) (hb : FE b) (hc : FE c) (w : World) :
    Calls Try.prog 53 #[(.agg #[.int .i64 a, .int .i64 b, .int .i64 c])] w fun e w' => e = .returned (.agg #[.int .i64 c, .int .i64 (nx1 b c r), .int .i64 (nx2 b c r d)]) ∧ Below w.heap.size w w' := by
  have hbd := disc_bd ha hb hc
  rw [hd] at hbd
  have hr0 := hr.1
  have hr1 := root_bd hr hbd.2
  have HD := Lib.hid (fun w => l05Disc_is d a b c hd ha hb hc w)
  have kb : -1000000 ≤ b ∧ b ≤ 1000000 := hb
  have kc : -1000000 ≤ c ∧ c ≤ 1000000 := hc
  have m1 := tmod_bd (x := r + b) (c := c) (by omega) hc0 hc
  have z4 : ¬ 4 * c = 0 := by omega
  have z2 : ((4 * c) == 0) = false := by rw [beq_eq_false_iff_ne]; omega
  have m2 := mul_bd (a := r - (r + b) % (2 * c)) (d := r - (r + b) % (2 * c)) (A := 2236068) (D := 2236068) (by omega) (by omega)
  have m3 := tdiv_bd (x := (r - (r + b) % (2 * c)) * (r - (r + b) % (2 * c)) - d) (d := 4 * c) (by unfold Mid; omega)
  unfold Mid at m3
  have hh : ∃ m : Int, 2 * m = 2 * (c.natAbs : Int) ∧ ((c = m ∧ -c ≤ c) ∨ (-c = m ∧ c < -c)) ∧ 1 ≤ m ∧ m ≤ 1000000 := ⟨c.natAbs, rfl, by omega, by omega, by omega⟩
  obtain ⟨m, hm, hs, hm0, hm1⟩ := hh
  have HM := Lib.hid (fun w => (rst_tmod (x := r + b) (c := c) (by omega) hc0 hm ▸ l01Mod_gen (r + b) (2 * m) (by omega) (by omega) (by unfold I64; omega) w :
    Calls Try.prog 63 #[(.int .i64 (r + b)), (.int .i64 (2 * m))] w fun e w' => e = .returned (.int .i64 ((r + b) % (2 * c))) ∧ w = w'))
  have HR := Lib.hid hr
  clear hd hr ha hb hc hm
  rcases hs with ⟨rfl, hs⟩ | ⟨rfl, hs⟩
  all_goals
    go_enter Try.func53, Try.ntmps53
    go_upto_region 1 with fail
    have BF : Box ((w.alloc (.cells #[.int .i64 a, .int .i64 b, .int .i64 c] 24)).alloc (.cells #[.int .i64 0, .int .i64 0, .int .i64 0] 24)) w.heap.size [.int .i64 a, .int .i64 b, .int .i64 c] := Box.alloc (Box.new _ _ _) _
    have BZ : Box ((w.alloc (.cells #[.int .i64 a, .int .i64 b, .int .i64 c] 24)).alloc (.cells #[.int .i64 0, .int .i64 0, .int .i64 0] 24)) (w.heap.size + 1) [.int .i64 0, .int .i64 0, .int .i64 0] := Box.newAt (by simp) _ _
    have T : Below w.heap.size w ((w.alloc (.cells #[.int .i64 a, .int .i64 b, .int .i64 c] 24)).alloc (.cells #[.int .i64 0, .int .i64 0, .int .i64 0] 24)) := own_alloc (own_alloc (own_refl _) _) _
    generalize World.alloc _ (.cells #[.int .i64 0, .int .i64 0, .int .i64 0] 24) = wd at T BF BZ ⊢
    obtain ⟨_, _, _, _, _, _, _⟩ := BF.three
    go_region_held3 (fun w' => w'.cell? ⟨w.heap.size, 0, none⟩ = some (.int .i64 a) ∧ w'.cell? ⟨w.heap.size, 1, none⟩ = some (.int .i64 b) ∧ w'.cell? ⟨w.heap.size, 2, none⟩ = some (.int .i64 c)) (go_keep)
      (first
        | (go_at_call 35; refine (HD.out _).mono ?_; rintro e w2 ⟨rfl, hb2⟩; have T := (by first | exact own_trans T hb2 | exact own_trans (own_drew T) hb2 : Below w.heap.size w w2); have BF := Box.below (by first | exact BF | exact Box.drew BF) hb2; have BZ := Box.below (by first | exact BZ | exact Box.drew BZ) hb2; obtain ⟨_, _, _, _, _, _, _⟩ := BF.three))
  all_goals
    obtain ⟨_, _, _, _, _, _, _⟩ := BZ.three
    go_wp2
  all_goals
    go_loop [6, 7] (fun x s => ∃ y z : Int, x = (.int .i64 y) ∧ s = (.int .i64 z) ∧ 0 ≤ y ∧ y ≤ r ∧ 0 ≤ z ∧ z ≤ 2147483648 ∧ ((z = 0 ∧ r < y + 1) ∨ ∃ k : Nat, z = 2 ^ k ∧ r < y + 2 * z)) (fun _ s => (intOf s).toNat)
    case atStart => exact ⟨0, 2147483648, rfl, rfl, by omega, hr0, by omega, by omega, .inr ⟨31, rfl, by omega⟩⟩
    case round =>
      obtain ⟨y, z, rfl, rfl, h4, h5, h6, h7, h8⟩ := hrel
      have mm := mul_bd (a := y + z) (d := y + z) (A := 2149719715) (D := 2149719715) (by omega) (by omega)
      rcases h8 with ⟨h8, h9⟩ | ⟨k, h8, h9⟩
      · subst h8
        obtain rfl : y = r := by omega
        go_wp2_with fail
        refine (HM.out _).mono ?_
        rintro e w3 ⟨rfl, rfl⟩
        go_wp2
        obtain ⟨_, e0, e1, e2, _, _, _⟩ := (BZ.put3 (.int .i64 c) (.int .i64 (y - (y + b) % (2 * c))) (.int .i64 (((y - (y + b) % (2 * c)) * (y - (y + b) % (2 * c)) - d).tdiv (4 * c)))).three
        exact bodyPost_ret (v := (.agg #[.int .i64 c, .int .i64 (y - (y + b) % (2 * c)), .int .i64 (((y - (y + b) % (2 * c)) * (y - (y + b) % (2 * c)) - d).tdiv (4 * c))])) (by simp [results, Try.results53, go_sem, e0, e1, e2]) rfl ⟨rfl, by repeat (first | with_reducible exact own_refl _ | with_reducible assumption | with_reducible apply own_alloc | with_reducible apply own_drewN | with_reducible apply own_drew | ((with_reducible refine own_setCell ?_ ?_ _); rotate_left; focus (first | (simp; done) | (simp; omega))) | (with_reducible (refine own_trans ?_ (by assumption))))⟩
      · have hz : 0 < z := by rw [h8]; exact Int.pow_pos (by omega)
        have H8 := Lib.hid h8
        clear h8
        have hq : 0 ≤ z.tdiv 2 ∧ z.tdiv 2 ≤ 1073741824 ∧ z.tdiv 2 < z := by rw [Int.tdiv_eq_ediv_of_nonneg h6]; omega
        have HN : Hid ((z.tdiv 2 = 0 ∧ z = 1) ∨ ∃ j : Nat, z.tdiv 2 = 2 ^ j ∧ z = 2 * z.tdiv 2) := Lib.hid (by
          have h8 := H8.out
          cases k with
          | zero => left; have : z = 1 := h8; subst this; exact ⟨rfl, rfl⟩
          | succ j => right; refine ⟨j, halve h8, ?_⟩; rw [halve h8, h8, Int.pow_succ]; omega)
        by_cases hb : (y + z) * (y + z) ≤ d
        · have h10 : Hid (y + z ≤ r) := Lib.hid (root_ge HR.out hb)
          go_wp2
          go_round
          case rel =>
            have h10 := h10.out
            refine ⟨_, _, rfl, rfl, by omega, h10, hq.1, by omega, ?_⟩
            rcases HN.out with ⟨n1, n2⟩ | ⟨j, n1, n2⟩
            · left; omega
            · right; exact ⟨j, n1, by omega⟩
          case measure => simp [intOf]; omega
        · have h10 : Hid (r < y + z) := Lib.hid (by
            have := HR.out.2.1
            exact sq_lt (by omega) (by omega))
          go_wp2
          go_round
          case rel =>
            have h10 := h10.out
            refine ⟨_, _, rfl, rfl, h4, h5, hq.1, by omega, ?_⟩
            rcases HN.out with ⟨n1, n2⟩ | ⟨j, n1, n2⟩
            · left; omega
            · right; exact ⟨j, n1, by omega⟩
          case measure => simp [intOf]; omega
end Go.Proofs.Ytfpgdbdgglbleaa
