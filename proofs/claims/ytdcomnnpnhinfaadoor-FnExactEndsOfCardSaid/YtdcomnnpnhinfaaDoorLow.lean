/- Contracts of fractions in lowest terms. -/
import Derived.Test.YtdcomnnpnhinfaaDoorGcd
namespace Go.Proofs.YtdcomnnpnhinfaaDoor
open Go.ChangeShapes Go.WideShapes Go.ChangeAt Go.RowKit

set_option maxHeartbeats 1000000 in
theorem l01Gcd_any (x y : Int) (hx : Mid x) (hy : Mid y) (w : World) :
    Calls Tryd.prog 68 #[(.int .i64 x), (.int .i64 y)] w fun e w' => e = .returned (.int .i64 ((Int.gcd x y : Int))) ∧ w = w' := by
  go_enter Tryd.func68, Tryd.ntmps68
  go_wp2
  go_loop [0, 1] (fun p q => ∃ a b : Int, p = (.int .i64 a) ∧ q = (.int .i64 b) ∧ Mid a ∧ Mid b ∧ Int.gcd a b = Int.gcd x y) (fun _ q => (intOf q).natAbs)
  case atStart => exact ⟨x, y, rfl, rfl, hx, hy, rfl⟩
  case round =>
    obtain ⟨a, b, rfl, rfl, ha, hb, hg⟩ := hrel
    have HG := Lib.hid hg
    clear hg
    by_cases h0 : b = 0
    · have HE : Hid ((a.natAbs : Int) = (Int.gcd x y : Int)) := by
        have := HG.out
        rw [h0, Int.gcd_zero_right] at this
        exact congrArg _ this
      have h0' : (b != 0) = false := by simp [h0]
      obtain ⟨_, _⟩ := ha
      clear h0
      have hw : IntKind.i64.wrap (-a) = -a := IntWalk.i64_in _ (by omega)
      go_wp2
      all_goals go_ret
      all_goals exact ⟨ret_int (by rw [← HE.out]; omega), rfl⟩
    · obtain ⟨hm, hlt⟩ := tmod_mid (a := a) h0 hb
      have HS := Lib.hid ((gcd_step a b).trans HG.out)
      have HM := Lib.hid hm
      have h0' : (b != 0) = true := by simp [h0]
      have h0'' : (b == 0) = false := by simp [h0]
      have hw : IntKind.i64.wrap (a.tmod b) = a.tmod b := IntWalk.i64_in _ (by unfold Mid at hm; omega)
      obtain ⟨_, _⟩ := ha
      have HB := Lib.hid hb
      obtain ⟨_, _⟩ := hb
      clear hm h0
      go_wp2
      go_round
      case rel => exact ⟨b, a.tmod b, rfl, rfl, HB.out, HM.out, HS.out⟩
      case measure => simpa [intOf] using hlt

/-- what both numbers are divided by -/
def dv (p q : Int) : Int := if q < 0 ∨ (q = 0 ∧ p < 0) then -(Int.gcd p q : Int) else (Int.gcd p q : Int)
def lowP (p q : Int) : Int := p.tdiv (dv p q)
def lowQ (p q : Int) : Int := q.tdiv (dv p q)
theorem gcd_facts {p q : Int} (h : ¬ (p = 0 ∧ q = 0)) (hp : Mid p) (hq : Mid q) : 1 ≤ (Int.gcd p q : Int) ∧ (Int.gcd p q : Int) ≤ 4000000000000000000 := by
  have h1 : 0 < Int.gcd p q := by
    rcases Nat.eq_zero_or_pos (Int.gcd p q) with h0 | h0
    · rw [Int.gcd_eq_zero_iff] at h0; exact absurd h0 h
    · exact h0
  refine ⟨by omega, ?_⟩
  unfold Mid at hp hq
  by_cases e : p = 0
  · have := Nat.le_of_dvd (show 0 < q.natAbs by omega) (Int.gcd_dvd_natAbs_right p q)
    omega
  · have := Nat.le_of_dvd (show 0 < p.natAbs by omega) (Int.gcd_dvd_natAbs_left p q)
    omega
theorem tdiv_bd {x d : Int} (hx : Mid x) : Mid (x.tdiv d) := by
  have h1 : (x.tdiv d).natAbs = x.natAbs / d.natAbs := Int.natAbs_tdiv x d
  have h2 : x.natAbs / d.natAbs ≤ x.natAbs := Nat.div_le_self _ _
  unfold Mid at *
  omega

theorem commonDivisor_is (g x y : Int) (hg : (Int.gcd x y : Int) = g) (hx : Mid x) (hy : Mid y) (w : World) :
    Calls Tryd.prog 88 #[(.int .i64 x), (.int .i64 y)] w fun e w' => e = .returned (.int .i64 g) ∧ Below w.heap.size w w' := hg ▸ commonDivisor_any x y hx hy w
theorem l01Gcd_is (g x y : Int) (hg : (Int.gcd x y : Int) = g) (hx : Mid x) (hy : Mid y) (w : World) :
    Calls Tryd.prog 68 #[(.int .i64 x), (.int .i64 y)] w fun e w' => e = .returned (.int .i64 g) ∧ w = w' := hg ▸ l01Gcd_any x y hx hy w

set_option maxHeartbeats 1000000 in
theorem implLow_neg (p q g : Int) (hp : Mid p) (hq : Mid q) (hg : (Int.gcd p q : Int) = g) (g1 : 1 ≤ g) (g2 : g ≤ 4000000000000000000) (hs : q < 0) (w : World) :
    Calls Tryd.prog 70 #[(.int .i64 p), (.int .i64 q)] w fun e w' => e = .returned (.agg #[.int .i64 (p.tdiv (-g)), .int .i64 (q.tdiv (-g))]) ∧ Below w.heap.size w w' := by
  have HG := Lib.hid hg
  clear hg
  have hd0 : ((-g) == 0) = false := by rw [beq_eq_false_iff_ne]; omega
  have hg0 : (g == 0) = false := by rw [beq_eq_false_iff_ne]; omega
  have hg3 : ¬ g = 0 := by omega
  have m1 := tdiv_bd (d := (-g)) hp
  have m2 := tdiv_bd (d := (-g)) hq
  unfold Mid at m1 m2
  have hw1 : IntKind.i64.wrap (p.tdiv (-g)) = p.tdiv (-g) := IntWalk.i64_in _ (by omega)
  have hw2 : IntKind.i64.wrap (q.tdiv (-g)) = q.tdiv (-g) := IntWalk.i64_in _ (by omega)
  have k1 : wrap64 (-p.tdiv g) = -p.tdiv g := by rw [← Int.tdiv_neg]; exact IntWalk.wrap64_in _ (by omega)
  have k2 : wrap64 (-q.tdiv g) = -q.tdiv g := by rw [← Int.tdiv_neg]; exact IntWalk.wrap64_in _ (by omega)
  obtain ⟨_, _⟩ := m1
  obtain ⟨_, _⟩ := m2
  have hs1 := hs
  go_enter Tryd.func70, Tryd.ntmps70
  go_wp2_with (go_at_call 88; refine (commonDivisor_is _ _ _ HG.out hp hq _).mono ?_; rintro e w1 ⟨rfl, hb1⟩; have R1 : Box w1 w.heap.size [.int .i64 0, .int .i64 0] := Box.below (Box.new _ _ _) hb1; obtain ⟨z, d0, d1, f0, f1⟩ := R1.two)
  go_region
  all_goals go_wp2
  all_goals exact bodyPost_ret (v := (.agg #[.int .i64 (p.tdiv (-g)), .int .i64 (q.tdiv (-g))])) (by simp [results, Tryd.results70, go_sem, d0, d1, k1, k2]) rfl ⟨rfl, by repeat (first | with_reducible exact own_refl _ | with_reducible assumption | with_reducible apply own_alloc | with_reducible apply own_drewN | with_reducible apply own_drew | ((with_reducible refine own_setCell ?_ ?_ _); rotate_left; focus (first | (simp; done) | (simp; omega))) | (with_reducible (refine own_trans ?_ (by assumption))))⟩

set_option maxHeartbeats 1000000 in
theorem implLow_zneg (p q g : Int) (hp : Mid p) (hq : Mid q) (hg : (Int.gcd p q : Int) = g) (g1 : 1 ≤ g) (g2 : g ≤ 4000000000000000000) (hs : q = 0) (hs' : p < 0) (w : World) :
    Calls Tryd.prog 70 #[(.int .i64 p), (.int .i64 q)] w fun e w' => e = .returned (.agg #[.int .i64 (p.tdiv (-g)), .int .i64 (q.tdiv (-g))]) ∧ Below w.heap.size w w' := by
  have HG := Lib.hid hg
  clear hg
  have hd0 : ((-g) == 0) = false := by rw [beq_eq_false_iff_ne]; omega
  have hg0 : (g == 0) = false := by rw [beq_eq_false_iff_ne]; omega
  have hg3 : ¬ g = 0 := by omega
  have m1 := tdiv_bd (d := (-g)) hp
  have m2 := tdiv_bd (d := (-g)) hq
  unfold Mid at m1 m2
  have hw1 : IntKind.i64.wrap (p.tdiv (-g)) = p.tdiv (-g) := IntWalk.i64_in _ (by omega)
  have hw2 : IntKind.i64.wrap (q.tdiv (-g)) = q.tdiv (-g) := IntWalk.i64_in _ (by omega)
  have k1 : wrap64 (-p.tdiv g) = -p.tdiv g := by rw [← Int.tdiv_neg]; exact IntWalk.wrap64_in _ (by omega)
  have k2 : wrap64 (-q.tdiv g) = -q.tdiv g := by rw [← Int.tdiv_neg]; exact IntWalk.wrap64_in _ (by omega)
  obtain ⟨_, _⟩ := m1
  obtain ⟨_, _⟩ := m2
  have hs1 : ¬ q < 0 := by omega
  have hs2 : (q == 0) = true := by simp [hs]
  clear hs
  go_enter Tryd.func70, Tryd.ntmps70
  go_wp2_with (go_at_call 88; refine (commonDivisor_is _ _ _ HG.out hp hq _).mono ?_; rintro e w1 ⟨rfl, hb1⟩; have R1 : Box w1 w.heap.size [.int .i64 0, .int .i64 0] := Box.below (Box.new _ _ _) hb1; obtain ⟨z, d0, d1, f0, f1⟩ := R1.two)
  go_region
  all_goals go_wp2
  all_goals exact bodyPost_ret (v := (.agg #[.int .i64 (p.tdiv (-g)), .int .i64 (q.tdiv (-g))])) (by simp [results, Tryd.results70, go_sem, d0, d1, k1, k2]) rfl ⟨rfl, by repeat (first | with_reducible exact own_refl _ | with_reducible assumption | with_reducible apply own_alloc | with_reducible apply own_drewN | with_reducible apply own_drew | ((with_reducible refine own_setCell ?_ ?_ _); rotate_left; focus (first | (simp; done) | (simp; omega))) | (with_reducible (refine own_trans ?_ (by assumption))))⟩

set_option maxHeartbeats 1000000 in
theorem implLow_zpos (p q g : Int) (hp : Mid p) (hq : Mid q) (hg : (Int.gcd p q : Int) = g) (g1 : 1 ≤ g) (g2 : g ≤ 4000000000000000000) (hs : q = 0) (hs' : 0 < p) (w : World) :
    Calls Tryd.prog 70 #[(.int .i64 p), (.int .i64 q)] w fun e w' => e = .returned (.agg #[.int .i64 (p.tdiv g), .int .i64 (q.tdiv g)]) ∧ Below w.heap.size w w' := by
  have HG := Lib.hid hg
  clear hg
  have hd0 : (g == 0) = false := by rw [beq_eq_false_iff_ne]; omega
  have hg0 : (g == 0) = false := by rw [beq_eq_false_iff_ne]; omega
  have hg3 : ¬ g = 0 := by omega
  have m1 := tdiv_bd (d := g) hp
  have m2 := tdiv_bd (d := g) hq
  unfold Mid at m1 m2
  have hw1 : IntKind.i64.wrap (p.tdiv g) = p.tdiv g := IntWalk.i64_in _ (by omega)
  have hw2 : IntKind.i64.wrap (q.tdiv g) = q.tdiv g := IntWalk.i64_in _ (by omega)
  obtain ⟨_, _⟩ := m1
  obtain ⟨_, _⟩ := m2
  have hs1 : ¬ q < 0 := by omega
  have hs2 : (q == 0) = true := by simp [hs]
  have hs3 : ¬ p < 0 := by omega
  clear hs
  go_enter Tryd.func70, Tryd.ntmps70
  go_wp2_with (go_at_call 88; refine (commonDivisor_is _ _ _ HG.out hp hq _).mono ?_; rintro e w1 ⟨rfl, hb1⟩; have R1 : Box w1 w.heap.size [.int .i64 0, .int .i64 0] := Box.below (Box.new _ _ _) hb1; obtain ⟨z, d0, d1, f0, f1⟩ := R1.two)
  go_region
  all_goals go_wp2
  all_goals exact bodyPost_ret (v := (.agg #[.int .i64 (p.tdiv g), .int .i64 (q.tdiv g)])) (by simp [results, Tryd.results70, go_sem, d0, d1]) rfl ⟨rfl, by repeat (first | with_reducible exact own_refl _ | with_reducible assumption | with_reducible apply own_alloc | with_reducible apply own_drewN | with_reducible apply own_drew | ((with_reducible refine own_setCell ?_ ?_ _); rotate_left; focus (first | (simp; done) | (simp; omega))) | (with_reducible (refine own_trans ?_ (by assumption))))⟩

set_option maxHeartbeats 1000000 in
theorem implLow_pos (p q g : Int) (hp : Mid p) (hq : Mid q) (hg : (Int.gcd p q : Int) = g) (g1 : 1 ≤ g) (g2 : g ≤ 4000000000000000000) (hs : 0 < q) (w : World) :
    Calls Tryd.prog 70 #[(.int .i64 p), (.int .i64 q)] w fun e w' => e = .returned (.agg #[.int .i64 (p.tdiv g), .int .i64 (q.tdiv g)]) ∧ Below w.heap.size w w' := by
  have HG := Lib.hid hg
  clear hg
  have hd0 : (g == 0) = false := by rw [beq_eq_false_iff_ne]; omega
  have hg0 : (g == 0) = false := by rw [beq_eq_false_iff_ne]; omega
  have hg3 : ¬ g = 0 := by omega
  have m1 := tdiv_bd (d := g) hp
  have m2 := tdiv_bd (d := g) hq
  unfold Mid at m1 m2
  have hw1 : IntKind.i64.wrap (p.tdiv g) = p.tdiv g := IntWalk.i64_in _ (by omega)
  have hw2 : IntKind.i64.wrap (q.tdiv g) = q.tdiv g := IntWalk.i64_in _ (by omega)
  obtain ⟨_, _⟩ := m1
  obtain ⟨_, _⟩ := m2
  have hs1 : ¬ q < 0 := by omega
  have hs2 : (q == 0) = false := by rw [beq_eq_false_iff_ne]; omega
  go_enter Tryd.func70, Tryd.ntmps70
  go_wp2_with (go_at_call 88; refine (commonDivisor_is _ _ _ HG.out hp hq _).mono ?_; rintro e w1 ⟨rfl, hb1⟩; have R1 : Box w1 w.heap.size [.int .i64 0, .int .i64 0] := Box.below (Box.new _ _ _) hb1; obtain ⟨z, d0, d1, f0, f1⟩ := R1.two)
  go_region
  all_goals go_wp2
  all_goals exact bodyPost_ret (v := (.agg #[.int .i64 (p.tdiv g), .int .i64 (q.tdiv g)])) (by simp [results, Tryd.results70, go_sem, d0, d1]) rfl ⟨rfl, by repeat (first | with_reducible exact own_refl _ | with_reducible assumption | with_reducible apply own_alloc | with_reducible apply own_drewN | with_reducible apply own_drew | ((with_reducible refine own_setCell ?_ ?_ _); rotate_left; focus (first | (simp; done) | (simp; omega))) | (with_reducible (refine own_trans ?_ (by assumption))))⟩

theorem implLow_any (p q : Int) (hp : Mid p) (hq : Mid q) (h : ¬ (p = 0 ∧ q = 0)) (w : World) :
    Calls Tryd.prog 70 #[(.int .i64 p), (.int .i64 q)] w fun e w' => e = .returned (.agg #[.int .i64 (lowP p q), .int .i64 (lowQ p q)]) ∧ Below w.heap.size w w' := by
  obtain ⟨g1, g2⟩ := gcd_facts h hp hq
  unfold lowP lowQ dv
  by_cases h1 : q < 0
  · rw [if_pos (.inl h1)]; exact implLow_neg p q _ hp hq rfl g1 g2 h1 w
  · by_cases h2 : q = 0
    · by_cases h3 : p < 0
      · rw [if_pos (.inr ⟨h2, h3⟩)]; exact implLow_zneg p q _ hp hq rfl g1 g2 h2 h3 w
      · rw [if_neg (by omega)]; exact implLow_zpos p q _ hp hq rfl g1 g2 h2 (by omega) w
    · rw [if_neg (by omega)]; exact implLow_pos p q _ hp hq rfl g1 g2 (by omega) w

end Go.Proofs.YtdcomnnpnhinfaaDoor
