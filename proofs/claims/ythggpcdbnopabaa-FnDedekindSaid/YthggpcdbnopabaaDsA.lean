/- addUp over products of saw teeth, and impl.dedekindSum. -/
import Derived.Test.YthggpcdbnopabaaDsI
namespace Go.Proofs.Ythggpcdbnopabaa
open Go.ChangeShapes Go.WideShapes Go.ChangeAt Go.RowKit

theorem tth_cast (K r : Nat) : tth (K : Int) (r : Int) = Dd.tt K r := by
  unfold tth Dd.tt
  by_cases h : r = 0
  · subst h; simp
  · rw [if_neg h, if_neg (by omega)]
theorem Box.reads2d {w : World} {g : Nat} {x0 x1 : Value} (h : Box w g [x0, x1]) (y0 y1 : Value) :
    (w.setCell ⟨g, 0, none⟩ y0).cell? ⟨g, 0, none⟩ = some y0 ∧ ((w.setCell ⟨g, 0, none⟩ y0).setCell ⟨g, 1, none⟩ y1).cell? ⟨g, 0, none⟩ = some y0 ∧ ((w.setCell ⟨g, 0, none⟩ y0).setCell ⟨g, 1, none⟩ y1).cell? ⟨g, 1, none⟩ = some y1 :=
  ⟨((h.set 0 (by simp) y0).two).2.1, (h.put2 y0 y1).two.2.1, (h.put2 y0 y1).two.2.2.1⟩
/-- the sum's part -/
def psm (H K n : Nat) : Int := Dd.sm (fun i => Dd.tt K i * Dd.tt K (H * i % K)) n
theorem psm_step (H K n : Nat) {h k s : Int} (hH : (H : Int) = h) (hK : (K : Int) = k) (hs : psm H K n = s) : psm H K (n + 1) = s + tth k (n : Int) * tth k (h * n % k) := by
  subst hH hK hs
  have e : ((H : Int) * n % K) = ((H * n % K : Nat) : Int) := by simp
  rw [e, tth_cast, tth_cast]
  rfl
theorem cube_bd {k n : Int} (hk : 0 ≤ k) (hk' : k ≤ 20000) (hn' : n ≤ k) : n * (k * k) ≤ 8000000000000 := by
  have h1 : k * k ≤ 400000000 := (prod_small hk hk' hk hk').2
  have h2 := Int.mul_le_mul hn' h1 (Int.mul_nonneg hk hk) hk
  omega
theorem psm_bd (H K n : Nat) {s : Int} (h1 : 1 ≤ K) (h2 : K ≤ 20000) (hn : n ≤ K) (hs : psm H K n = s) : -8000000000000 ≤ s ∧ s ≤ 8000000000000 := by
  subst hs
  have h3 := Dd.Df_part (h := H) h1 hn
  have h4 := cube_bd (k := K) (n := n) (by omega) (by omega) (by omega)
  unfold psm
  omega
theorem lowestTeeth (H K : Nat) (h1 : 1 ≤ K) (h2 : K ≤ 20000) : Mid (Dd.Df H K) ∧ Mid (4 * ((K : Int) * K)) ∧ ¬ (Dd.Df H K = 0 ∧ 4 * ((K : Int) * K) = 0) := by
  have h3 := psm_bd H K K h1 h2 (Nat.le_refl _) rfl
  obtain ⟨h4, h5⟩ := prod_small (h := K) (i := K) (by omega) (by omega) (by omega) (by omega)
  have h6 : (1 : Int) ≤ (K : Int) * K := by
    have := Int.mul_le_mul (show (1 : Int) ≤ K by omega) (show (1 : Int) ≤ K by omega) (by omega) (by omega)
    omega
  have h7 : Dd.Df H K = psm H K K := rfl
  unfold Mid
  omega

set_option maxHeartbeats 2000000 in
theorem addUp_teeth (h k x y : Int) (H K : Nat) (hH : (H : Int) = h) (hK : (K : Int) = k) (hlt : H < K) (hK2 : K ≤ 20000) (hx : lowP (Dd.Df H K) (4 * (k * k)) = x) (hy : lowQ (Dd.Df H K) (4 * (k * k)) = y)
    (gh gk : Nat) (w : World) (B0 : Box w gh [(.int .i64 h)]) (B1 : Box w gk [(.int .i64 k)]) :
    Calls Try.prog 40 #[.iface 62 (.agg #[(.int .i64 k), rfn gh gk])] w fun e w' => e = .returned (.agg #[.int .i64 x, .int .i64 y]) ∧ Below w.heap.size w w' := by
  have HE := Lib.hid (And.intro hH hK)
  have hk1 : 1 ≤ k ∧ k ≤ 20000 ∧ 0 ≤ h ∧ h < k := by omega
  have HL := Lib.hid (lowestTeeth H K (by omega) hK2)
  rw [hK] at HL
  have HLow := Lib.hid (fun w => implLow_at (Dd.Df H K) (4 * (k * k)) x y hx hy HL.out.1 HL.out.2.1 HL.out.2.2 w)
  clear hx hy HL hH hK
  obtain ⟨_, _, _, _⟩ := hk1
  go_enter Try.func40, Try.ntmps40
  go_wp2_with fail
  refine (count_is k (rfn gh gk) _).mono ?_
  rintro e w1 ⟨rfl, hb1⟩
  have T1 : Below w.heap.size w w1 := by repeat (first | with_reducible exact own_refl _ | with_reducible assumption | with_reducible apply own_alloc | with_reducible apply own_drewN | with_reducible apply own_drew | ((with_reducible refine own_setCell ?_ ?_ _); rotate_left; focus (first | (simp; done) | (simp; omega))) | (with_reducible (refine own_trans ?_ (by assumption))))
  have Z1 : Box w1 w.heap.size [.int .i64 0, .int .i64 0] := Box.below (Box.new _ _ _) hb1
  clear hb1
  go_wp2
  go_loopw [3, 7] (fun s x wr => ∃ (n : Nat) (t : Int), n ≤ K ∧ x = (.int .i64 ((n : Int))) ∧ s = (.int .i64 t) ∧ Hid (psm H K n = t) ∧ Below w.heap.size w wr ∧ Box wr w.heap.size [.int .i64 0, .int .i64 0]) (fun _ x _ => K - (intOf x).toNat)
  case atStart => exact ⟨0, 0, Nat.zero_le _, rfl, rfl, Lib.hid rfl, T1, Z1⟩
  case round =>
    obtain ⟨n, t, hn, rfl, rfl, HS, T, Z⟩ := hrel
    obtain ⟨_, _⟩ := psm_bd H K n (by omega) hK2 hn HS.out
    have hKk := HE.out.2
    by_cases hl : n < K
    · have hnk : (n : Int) < k := by omega
      obtain ⟨u, hu⟩ : ∃ u, tth k (n : Int) * tth k (h * n % k) = u := ⟨_, rfl⟩
      have hs1 := psm_step H K n HE.out.1 HE.out.2 HS.out
      rw [hu] at hs1
      have HN := Lib.hid hs1
      clear hs1
      obtain ⟨_, _⟩ := psm_bd H K (n + 1) (by omega) hK2 hl HN.out
      have HT := Lib.hid (fun (w' : World) (hb : Below w.heap.size w w') => by
        have b0 := B0.low hb B0.1
        have b1 := B1.low hb B1.1
        exact hu ▸ term_is h k n gh gk (by omega) (by omega) (by omega) (by omega) hnk w' b0.one.2.1 b1.one.2.1 b0.1 b1.1)
      clear hu
      go_wp2_with fail
      refine (HT.out wr T).mono ?_
      rintro e w2 ⟨rfl, hb2⟩
      have T2 := own_trans T hb2
      have Z2 := Z.below hb2
      go_wp2
      go_roundw
      case rel => exact ⟨n + 1, t + u, hl, by go_num, by go_num, HN, T2, Z2⟩
      case measure => simp [intOf]; omega
    · obtain rfl : n = K := by omega
      have hnk : ¬ ((n : Int) < k) := by omega
      have e1 : Hid (Dd.Df H n = t) := Lib.hid HS.out
      go_wp2_with fail
      refine (divisor_is k (rfn gh gk) (by omega) (by omega) _).mono ?_
      rintro e w2 ⟨rfl, hb2⟩
      have T2 := own_trans T hb2
      have Z2 := Z.below hb2
      rw [e1.out] at HLow
      go_wp2_with fail
      refine (HLow.out _).mono ?_
      rintro e w3 ⟨rfl, hb3⟩
      have T3 := own_trans T2 hb3
      have Z3 := Z2.below hb3
      obtain ⟨_, _, _, _, _⟩ := Z3.two
      go_wp2
      obtain ⟨_, d1, d2⟩ := Z3.reads2d (.int .i64 x) (.int .i64 y)
      exact bodyPost_ret (v := (.agg #[.int .i64 x, .int .i64 y])) (by simp [results, Try.results40, go_sem, d1, d2]) rfl ⟨rfl, by repeat (first | with_reducible exact own_refl _ | with_reducible assumption | with_reducible apply own_alloc | with_reducible apply own_drewN | with_reducible apply own_drew | ((with_reducible refine own_setCell ?_ ?_ _); rotate_left; focus (first | (simp; done) | (simp; omega))) | (with_reducible (refine own_trans ?_ (by assumption))))⟩
end Go.Proofs.Ythggpcdbnopabaa
