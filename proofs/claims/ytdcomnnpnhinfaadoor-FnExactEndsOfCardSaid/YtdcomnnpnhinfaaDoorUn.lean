/- Numbers without a common divisor with n: unitsOf, countUnits of the program, l06Phi of the model, and pairs. -/
import Derived.Test.YtdcomnnpnhinfaaDoorLow
import Derived.Test.YtdcomnnpnhinfaaDoorGr
namespace Go.Proofs.YtdcomnnpnhinfaaDoor
open Go.ChangeShapes Go.WideShapes Go.ChangeAt Go.RowKit

/-- the numbers of 1..k without a common divisor with n -/
def cop (n : Int) : Nat → List Int
  | 0 => []
  | k + 1 => if Int.gcd ((k : Int) + 1) n = 1 then cop n k ++ [(k : Int) + 1] else cop n k
theorem cop_len (n : Int) : ∀ k : Nat, (cop n k).length ≤ k
  | 0 => Nat.le_refl _
  | k + 1 => by
    have := cop_len n k
    rw [cop]
    split <;> simp <;> omega
theorem cop_yes {n u : Int} {k : Nat} (hu : (k : Int) + 1 = u) (h : ((Int.gcd u n : Nat) : Int) = 1) : cop n (k + 1) = cop n k ++ [u] := by
  subst hu
  rw [cop, if_pos (by omega)]
theorem cop_no {n u : Int} {k : Nat} (hu : (k : Int) + 1 = u) (h : ¬ ((Int.gcd u n : Nat) : Int) = 1) : cop n (k + 1) = cop n k := by
  subst hu
  rw [cop, if_neg (by omega)]
theorem cop_mem (n : Int) : ∀ (k : Nat) (u : Int), u ∈ cop n k → 1 ≤ u ∧ u ≤ k
  | 0, u, h => by simp [cop] at h
  | k + 1, u, h => by
    rw [cop] at h
    split at h
    · simp only [List.mem_append, List.mem_singleton] at h
      rcases h with h | h
      · have := cop_mem n k u h; omega
      · omega
    · have := cop_mem n k u h; omega

set_option maxHeartbeats 2000000 in
theorem unitsOf_any (n : Int) (N : Nat) (hN : (N : Int) = n) (h : N ≤ 1000000) (w : World) :
    Calls Tryd.prog 63 #[(.int .i64 n)] w fun e w' => ∃ v, e = .returned v ∧ Gr w' w.heap.size v (cop n N) ∧ Below w.heap.size w w' := by
  have HN := Lib.hid hN
  have hn : 0 ≤ n ∧ n ≤ 1000000 := by omega
  obtain ⟨_, _⟩ := hn
  clear hN
  go_enter Tryd.func63, Tryd.ntmps63
  go_wp2
  go_loopw [3, 4] (fun v x wr => ∃ k : Nat, k ≤ N ∧ x = (.int .i64 ((k : Int) + 1)) ∧ Below w.heap.size w wr ∧ Gr wr w.heap.size v (cop n k)) (fun _ x _ => (n + 1 - intOf x).toNat)
  case atStart => exact ⟨0, Nat.zero_le _, by simp, own_refl _, Gr.nil _ _⟩
  case round =>
    obtain ⟨k, hk, rfl, T, hG⟩ := hrel
    obtain ⟨u, hu⟩ : ∃ u : Int, (k : Int) + 1 = u := ⟨_, rfl⟩
    have HU := Lib.hid hu
    have hu1 : 1 ≤ u ∧ u ≤ n + 1 := by have := HN.out; omega
    have hz := T.size
    obtain ⟨_, _⟩ := hu1
    obtain ⟨c, hc⟩ : ∃ c, cop n k = c := ⟨_, rfl⟩
    have hcl : c.length ≤ 1000000 := by rw [← hc]; exact Nat.le_trans (cop_len n k) (by omega)
    rw [hc] at hG
    have HC := Lib.hid hc
    rw [hu]
    by_cases hlt : u ≤ n
    · obtain ⟨g, hg⟩ : ∃ g : Int, ((Int.gcd u n : Nat) : Int) = g := ⟨_, rfl⟩
      have HG := Lib.hid hg
      have HD := Lib.hid (fun w => commonDivisor_is g u n hg (by unfold Mid; omega) (by unfold Mid; omega) w)
      obtain ⟨ad, cap, hv⟩ := hG.shape
      subst hv
      by_cases h1 : g = 1
      · subst h1
        have HS := Lib.hid (cop_yes hu hg)
        clear hg hu hc
        go_wp2_with fail
        refine (HD.out _).mono ?_
        rintro e w1 ⟨rfl, hb1⟩
        have hG1 := hG.own hb1
        have hz1 := hb1.size
        go_wp2_with (at_builtin; refine app64 rfl _ _ rfl w.heap.size w1 (.slice ad c.length cap) c u rfl hG1 w1.heap.size rfl rfl (by omega) (by omega) ?_; intro v' w2 hG2 hb2)
        go_roundw
        case rel => exact ⟨k + 1, by have := HU.out; have := HN.out; omega, by have := HU.out; simp; omega, (T.trans (hb1.mono hz)).trans hb2, by rw [HS.out, HC.out]; exact hG2⟩
        case measure => simp [intOf]; omega
      · have HS := Lib.hid (cop_no hu (fun h => h1 (hg.symm.trans h)))
        clear hg hu hc
        have h1' : (g == 1) = false := by simp [h1]
        go_wp2_with fail
        refine (HD.out _).mono ?_
        rintro e w1 ⟨rfl, hb1⟩
        have hG1 := hG.own hb1
        go_wp2
        go_roundw
        case rel => exact ⟨k + 1, by have := HU.out; have := HN.out; omega, by have := HU.out; simp; omega, T.trans (hb1.mono hz), by rw [HS.out, HC.out]; exact hG1⟩
        case measure => simp [intOf]; omega
    · have HE : Hid (k = N) := Lib.hid (by have := HN.out; omega)
      clear hu hc
      go_wp2
      go_ret
      exact ⟨_, rfl, by rw [← HE.out, HC.out]; exact hG, T⟩

theorem countUnits_any (n : Int) (N : Nat) (hN : (N : Int) = n) (h : N ≤ 1000000) (w : World) :
    Calls Tryd.prog 62 #[(.int .i64 n)] w fun e w' => e = .returned (.int .i64 (((cop n N).length : Int))) ∧ Below w.heap.size w w' := by
  have HU := Lib.hid (fun w => unitsOf_any n N hN h w)
  clear hN
  go_enter Tryd.func62, Tryd.ntmps62
  go_wp2_with fail
  refine (HU.out _).mono ?_
  rintro e w1 ⟨v, rfl, hG, hb1⟩
  obtain ⟨ad, cap, hv⟩ := hG.shape
  subst hv
  obtain ⟨m, hm⟩ : ∃ m, (cop n N).length = m := ⟨_, rfl⟩
  rw [hm]
  go_wp2
  go_ret
  exact ⟨ret_int (by rw [hm]), hb1⟩

def isP (n c d : Int) : Bool := decide (Int.gcd (Int.gcd c d : Int) n = 1)
theorem isPair_any (n c d : Int) (hn : Mid n) (hc : Mid c) (hd : Mid d) (hm : Mid (Int.gcd c d : Int)) (w : World) :
    Calls Tryd.prog 90 #[(.int .i64 n), (.int .i64 c), (.int .i64 d)] w fun e w' => e = .returned (.bool (isP n c d)) ∧ Below w.heap.size w w' := by
  obtain ⟨g, hg⟩ : ∃ g : Int, ((Int.gcd c d : Nat) : Int) = g := ⟨_, rfl⟩
  obtain ⟨x, hx⟩ : ∃ x : Int, ((Int.gcd g n : Nat) : Int) = x := ⟨_, rfl⟩
  have HP : Hid (isP n c d = (x == 1)) := Lib.hid (by unfold isP; rw [hg, ← hx]; rw [Bool.eq_iff_iff]; simp; omega)
  rw [hg] at hm
  have H1 := Lib.hid (fun w => commonDivisor_is g c d hg hc hd w)
  have H2 := Lib.hid (fun w => commonDivisor_is x g n hx hm hn w)
  rw [HP.out]
  clear hg hx hn hc hd hm HP
  go_enter Tryd.func90, Tryd.ntmps90
  go_wp2_with fail
  refine (H1.out _).mono ?_
  rintro e w1 ⟨rfl, hb1⟩
  go_wp2_with fail
  refine (H2.out _).mono ?_
  rintro e w2 ⟨rfl, hb2⟩
  go_wp2
  go_ret
  exact ⟨rfl, by repeat (first | with_reducible exact own_refl _ | with_reducible assumption | with_reducible apply own_alloc | with_reducible apply own_drewN | with_reducible apply own_drew | ((with_reducible refine own_setCell ?_ ?_ _); rotate_left; focus (first | (simp; done) | (simp; omega))) | (with_reducible (refine own_trans ?_ (by assumption))))⟩
end Go.Proofs.YtdcomnnpnhinfaaDoor
