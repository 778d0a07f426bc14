/- The model's line of a level: contract. -/
import Derived.Test.YtdcomnnpnhinfaaDoorSS
import Derived.Test.YtdcomnnpnhinfaaDoorLnM
import Derived.OwnWalk
namespace Go.Proofs.YtdcomnnpnhinfaaDoor
open Go.ChangeShapes Go.WideShapes Go.ChangeAt Go.RowKit

/-- pairs as lists -/
def prs (l : List (Int × Int)) : List (List Int) := l.map fun p => [p.1, p.2]
theorem prs_snoc (l : List (Int × Int)) (c d : Int) : prs (l ++ [(c, d)]) = prs l ++ [[c, d]] := by simp [prs]

set_option maxHeartbeats 4000000 in
theorem l06Line_is (n : Int) (h1 : 1 ≤ n) (h2 : n ≤ 60) (w : World) :
    Calls Tryd.prog 30 #[(.int .i64 n)] w fun e w' => ∃ v, e = .returned v ∧ GrSS w' w.heap.size v (prs (ln n)) ∧ Below w.heap.size w w' := by
  obtain ⟨N, hN⟩ : ∃ N : Nat, n.toNat = N := ⟨_, rfl⟩
  have HN : Hid (n.toNat = N ∧ (N : Int) = n) := Lib.hid (by omega)
  clear hN
  go_enter Tryd.func30, Tryd.ntmps30
  go_wp2
  go_loopw [3, 4] (fun v x wr => ∃ (k : Nat) (c : Int), Hid ((k : Int) = c) ∧ 0 ≤ c ∧ c ≤ n ∧ x = (.int .i64 c) ∧ Below w.heap.size w wr ∧ GrSS wr w.heap.size v (prs (lnL n k))) (fun _ x _ => (n - intOf x).toNat)
  case atStart => exact ⟨0, 0, Lib.hid rfl, by omega, by omega, rfl, own_alloc (own_refl _) _, GrSS.lit _ _ (Nat.le_refl _)⟩
  case round =>
    obtain ⟨k, c, HK, c0, cn, rfl, T, hG⟩ := hrel
    obtain ⟨ad, cap, hv⟩ := hG.shape
    subst hv
    by_cases hlt : c < n
    · have HC0 : Hid ((k : Int) = c ∧ (k : Nat) < N) := Lib.hid (by have := HK.out; have := HN.out; omega)
      have HGk := Lib.hid hG
      go_wp2
      go_loopw [3, 5] (fun v x wx => ∃ (j : Nat) (d : Int), Hid ((j : Int) = d) ∧ 0 ≤ d ∧ d ≤ n ∧ x = (.int .i64 d) ∧ Below w.heap.size w wx ∧ GrSS wx w.heap.size v (prs (lnL n k ++ rowL n c j))) (fun _ x _ => (n - intOf x).toNat)
      case atStart => exact ⟨0, 0, Lib.hid rfl, by omega, by omega, rfl, T, by rw [rowL, List.append_nil]; exact HGk.out⟩
      case round =>
        obtain ⟨j, d, HJ, d0, dn, rfl, T, hG⟩ := hrel
        by_cases hld : d < n
        · have hlen : Hid ((prs (lnL n k ++ rowL n c j)).length ≤ 100000) := Lib.hid (by
            have a := lnL_len n k
            have b := rowL_len n c j
            have e : k * n.toNat ≤ 60 * 60 := Nat.mul_le_mul (by have := HC0.out; have := HN.out; omega) (by omega)
            have := HJ.out
            simp [prs]
            omega)
          have hR : Rst2 n (c, d) := ⟨c0, hlt, d0, hld⟩
          have hz := T.size
          rcases hp : isP n c d with _ | _
          · have HM := Lib.hid (fun w => l06Normal_no n c d (by omega) hR hp w)
            have HO : Hid (rowL n c (j + 1) = rowL n c j) := Lib.hid (rowL_no HJ.out (by unfold okP; rw [hp]; rfl))
            obtain ⟨ad, cap, hv⟩ := hG.shape
            subst hv
            clear hp hR
            go_wp2_with fail
            refine (HM.out _).mono ?_
            rintro e w1 ⟨rfl, hb1⟩
            have T1 := own_trans T hb1
            have hG1 := hG.own hb1
            clear hG hb1 T
            go_wp2
            go_roundw
            case rel => exact ⟨j + 1, d + 1, Lib.hid (by have := HJ.out; simp; omega), by omega, by omega, rfl, T1, by rw [HO.out]; exact hG1⟩
            case measure => simp [intOf]; omega
          · obtain ⟨⟨x, y⟩, hr⟩ : ∃ r, nrm n c d = r := ⟨_, rfl⟩
            have HM := Lib.hid (fun w => l06Normal_yes n c d h1 (by omega) hR hp (x, y) hr w)
            simp only at HM
            by_cases hx : x = c
            · rw [hx] at HM hr
              by_cases hy : y = d
              · rw [hy] at HM hr
                have HO := Lib.hid (rowL_yes (n := n) (c := c) HJ.out (by unfold okP; rw [hp, hr]; simp))
                obtain ⟨xss, hxss⟩ : ∃ xss, prs (lnL n k ++ rowL n c j) = xss := ⟨_, rfl⟩
                rw [hxss] at hG hlen
                have HX := Lib.hid hxss
                obtain ⟨ad, cap, hv⟩ := hG.shape
                subst hv
                clear hp hR hr hx hy hxss
                go_wp2_with fail
                refine (HM.out _).mono ?_
                rintro e w1 ⟨rfl, hb1⟩
                have T1 := own_trans T hb1
                have hz1 := T1.size
                have hG1 := hG.own hb1
                have hl1 := hlen.out
                clear hG hb1 T
                go_wp2_with (at_builtin; refine appSS rfl _ _ rfl w.heap.size w1 (w1.alloc (.cells #[(.int .i64 c), (.int .i64 d)] 2)) (.slice ad xss.length cap) xss (.slice (some ⟨w1.heap.size, 0, none⟩) 2 2) [c, d] rfl hG1 (World.grownBy_alloc _ _ _) (Gr.pair hz1 c d) (fun k hk => by simp [Value.ownBlock] at hk; omega) rfl (w1.heap.size + 1) (by simp [go_sem]) (by simp) (by omega) (by simp; omega) ?_; intro v' w2 hG2 hb2)
                go_roundw
                case rel => exact ⟨j + 1, d + 1, Lib.hid (by have := HJ.out; simp; omega), by omega, by omega, rfl, (own_alloc T1 _).trans hb2, by rw [HO.out, ← List.append_assoc, prs_snoc, HX.out]; exact hG2⟩
                case measure => simp [intOf]; omega
              · have HO : Hid (rowL n c (j + 1) = rowL n c j) := Lib.hid (rowL_no HJ.out (by
                  unfold okP
                  rw [hr, Bool.and_eq_false_iff]
                  exact .inr (decide_eq_false fun h => by injection h with ha hb; exact hy hb)))
                have hy' : (y == d) = false := by simp [hy]
                obtain ⟨ad, cap, hv⟩ := hG.shape
                subst hv
                clear hp hR hr hx
                go_wp2_with fail
                refine (HM.out _).mono ?_
                rintro e w1 ⟨rfl, hb1⟩
                have T1 := own_trans T hb1
                have hG1 := hG.own hb1
                clear hG hb1 T
                go_wp2
                go_roundw
                case rel => exact ⟨j + 1, d + 1, Lib.hid (by have := HJ.out; simp; omega), by omega, by omega, rfl, T1, by rw [HO.out]; exact hG1⟩
                case measure => simp [intOf]; omega
            · have HO : Hid (rowL n c (j + 1) = rowL n c j) := Lib.hid (rowL_no HJ.out (by
                unfold okP
                rw [hr, Bool.and_eq_false_iff]
                exact .inr (decide_eq_false fun h => by injection h with ha hb; exact hx ha)))
              have hx' : (x == c) = false := by simp [hx]
              obtain ⟨ad, cap, hv⟩ := hG.shape
              subst hv
              clear hp hR hr
              go_wp2_with fail
              refine (HM.out _).mono ?_
              rintro e w1 ⟨rfl, hb1⟩
              have T1 := own_trans T hb1
              have hG1 := hG.own hb1
              clear hG hb1 T
              go_wp2
              go_roundw
              case rel => exact ⟨j + 1, d + 1, Lib.hid (by have := HJ.out; simp; omega), by omega, by omega, rfl, T1, by rw [HO.out]; exact hG1⟩
              case measure => simp [intOf]; omega
        · have HE : Hid (lnL n (k + 1) = lnL n k ++ rowL n c j) := Lib.hid (by
            have := HJ.out
            have := HN.out
            rw [lnL, HC0.out.1]
            rw [show n.toNat = j by omega])
          go_wp2
          go_roundw
          case rel => exact ⟨k + 1, c + 1, Lib.hid (by have := HC0.out; simp; omega), by omega, by omega, rfl, T, by rw [HE.out]; exact hG⟩
          case measure => simp [intOf]; omega
    · have HE : Hid (lnL n k = ln n) := Lib.hid (by have := HK.out; have := HN.out; unfold ln; rw [show k = n.toNat by omega])
      go_wp2
      go_ret
      exact ⟨_, rfl, by rw [← HE.out]; exact hG, T⟩
end Go.Proofs.YtdcomnnpnhinfaaDoor
