/- The model's CuspsOf. -/
import Derived.Test.YtajfjfgpiggekaaCuS
import Derived.Test.YtajfjfgpiggekaaCyc
import Derived.Test.YtajfjfgpiggekaaLnO
namespace Go.Proofs.Ytajfjfgpiggekaa
open Go.ChangeShapes Go.WideShapes Go.ChangeAt Go.RowKit

/-- the rows of the cusps -/
def rowsC (o : List Int) (N : Nat) : Nat → List (List Int)
  | 0 => []
  | k + 1 => rowsC o N k ++ [rowC o k N]
theorem rowsC_len (o : List Int) (N : Nat) : ∀ k, (rowsC o N k).length = k
  | 0 => rfl
  | k + 1 => by simp [rowsC, rowsC_len o N k]
theorem specCu_no (n : Int) (hn : inR n 1 60 = false) (w : World) : Calls Try.prog 37 #[(.int .i64 n)] w (RetSS [] 2 w) := by
  have HN := Lib.hid hn
  clear hn
  go_enter Try.func37, Try.ntmps37
  go_wp2_with fail
  refine (l01In_is false _ _ _ HN.out _).mono ?_
  rintro e w2 ⟨rfl, rfl⟩
  go_wp2
  go_ret2
  exact ⟨_, rfl, GrSS.nil _ _, by repeat (first | with_reducible exact own_refl _ | with_reducible assumption | with_reducible apply own_alloc | with_reducible apply own_drewN | with_reducible apply own_drew | ((with_reducible refine own_setCell ?_ ?_ _); rotate_left; focus (first | (simp; done) | (simp; omega))) | (with_reducible (refine own_trans ?_ (by assumption))))⟩
set_option maxRecDepth 100000 in
set_option maxHeartbeats 4000000 in
theorem specCu_yes (n : Int) (hn : inR n 1 60 = true) (N : Nat) (hN : (ln n).length = N) (w : World) : Calls Try.prog 37 #[(.int .i64 n)] w (RetSS (rowsC (cus n N).1 N (cus n N).2) 0 w) := by
  have HN := Lib.hid hn
  have hn' : 1 ≤ n ∧ n ≤ 60 := of_decide_eq_true hn
  have HL := Lib.hid (fun w => l06Line_is n hn'.1 hn'.2 w)
  have HC := Lib.hid (fun v L w hG => l06Cusps_is n hn'.1 hn'.2 v L w hG N hN)
  have hNb : N ≤ 3600 := by rw [← hN]; exact ln_len hn'.2
  have hpl : (prs (ln n)).length = N := by simp [prs, hN]
  have HP := Lib.hid hpl
  have hcl := cus_len n N
  rw [hN] at hcl
  generalize cus n N = cu at *
  obtain ⟨o, s⟩ := cu
  obtain ⟨hol, hsl⟩ := hcl
  simp only at hol hsl HC ⊢
  have HO := Lib.hid hol
  clear hn hn' hN hpl hol
  go_enter Try.func37, Try.ntmps37
  go_wp2_with fail
  refine (l01In_is true _ _ _ HN.out _).mono ?_
  rintro e w2 ⟨rfl, rfl⟩
  go_wp2_with fail
  refine (HL.out _).mono ?_
  rintro e w3 ⟨v, rfl, hG3, hb3⟩
  obtain ⟨ad, cap, hv⟩ := hG3.shape
  subst hv
  rw [HP.out] at hG3 ⊢
  go_wp2_with fail
  refine (HC.out _ _ _ hG3).mono ?_
  rintro e w5 ⟨v5, rfl, hG5, hb5⟩
  obtain ⟨ad5, cap5, hv⟩ := hG5.shape
  subst hv
  rw [HO.out] at hG5 ⊢
  have T5 : Below w.heap.size w w5 := by repeat (first | with_reducible exact own_refl _ | with_reducible assumption | with_reducible apply own_alloc | with_reducible apply own_drewN | with_reducible apply own_drew | ((with_reducible refine own_setCell ?_ ?_ _); rotate_left; focus (first | (simp; done) | (simp; omega))) | (with_reducible (refine own_trans ?_ (by assumption))))
  have HG5 := Lib.hid hG5
  have hz5 := T5.size
  clear hG3 hb3 hb5 hG5
  go_wp2
  go_loopw [7, 8] (fun v x wr => ∃ k : Nat, k ≤ s ∧ x = (.int .i64 ((k : Int))) ∧ GrSS wr w5.heap.size v (rowsC o N k) ∧ Below w5.heap.size w5 wr) (fun _ x _ => s - (intOf x).toNat)
  case atStart => exact ⟨0, Nat.zero_le _, rfl, GrSS.lit _ _ (Nat.le_refl _), by repeat (first | with_reducible exact own_refl _ | with_reducible assumption | with_reducible apply own_alloc | with_reducible apply own_drewN | with_reducible apply own_drew | ((with_reducible refine own_setCell ?_ ?_ _); rotate_left; focus (first | (simp; done) | (simp; omega))) | (with_reducible (refine own_trans ?_ (by assumption))))⟩
  case round =>
    obtain ⟨k, hk, rfl, hS, T⟩ := hrel
    have hrl := rowsC_len o N k
    obtain ⟨xss, hxss⟩ : ∃ xss, rowsC o N k = xss := ⟨_, rfl⟩
    rw [hxss] at hS hrl
    have HX := Lib.hid hxss
    clear hxss
    have HRL := Lib.hid hrl
    obtain ⟨ad7, cap7, hv⟩ := hS.shape
    subst hv
    rw [hrl] at hS ⊢
    clear hrl
    have hzr := T.size
    by_cases hlt : k < s
    · obtain ⟨q, hq⟩ : ∃ q : Int, (k : Int) = q := ⟨_, rfl⟩
      have HQ := Lib.hid hq
      have hq1 : 0 ≤ q ∧ q ≤ 3600 ∧ q < (s : Int) := by omega
      obtain ⟨_, _, _⟩ := hq1
      rw [hq]
      clear hq
      have HS := Lib.hid hS
      clear hS
      go_wp2
      generalize wr = wo at *
      go_loopw [9, 10] (fun v x wr => ∃ i : Nat, i ≤ N ∧ x = (.int .i64 ((i : Int))) ∧ Gr wr wo.heap.size v (rowC o q i) ∧ Below wo.heap.size wo wr) (fun _ x _ => N - (intOf x).toNat)
      case atStart => exact ⟨0, Nat.zero_le _, rfl, World.ownsRow_lit wo #[] 0 (Nat.le_refl _) (by unfold maxLen; omega) rfl, by repeat (first | with_reducible exact own_refl _ | with_reducible assumption | with_reducible apply own_alloc | with_reducible apply own_drewN | with_reducible apply own_drew | ((with_reducible refine own_setCell ?_ ?_ _); rotate_left; focus (first | (simp; done) | (simp; omega))) | (with_reducible (refine own_trans ?_ (by assumption))))⟩
      case round =>
        obtain ⟨i, hi, rfl, hF, T9⟩ := hrel
        have hrc := rowC_len (o := o) (c := q) i
        obtain ⟨c, hc⟩ : ∃ c, rowC o q i = c := ⟨_, rfl⟩
        rw [hc] at hF hrc
        have HCC := Lib.hid hc
        clear hc
        obtain ⟨ad9, cap9, hv⟩ := hF.shape
        subst hv
        have hz9 := T9.size
        by_cases hil : i < N
        · have hG5 := (HG5.out.own T).own (T9)
          obtain ⟨g, rfl, _, _, hcl⟩ := hG5.cellsZ (by omega)
          obtain ⟨x, hx⟩ : ∃ x, o.getD i 0 = x := ⟨_, rfl⟩
          have c0 := (hcl i hil).1
          rw [hx] at c0
          clear hcl hG5
          by_cases hxq : x = q
          · have HR : Hid (rowC o q (i + 1) = c ++ [(i : Int)]) := Lib.hid (by rw [rowC, if_pos (hx.trans hxq), HCC.out])
            have e1 : (x == q) = true := by simp [hxq]
            clear hx hxq
            go_wp2_with (at_builtin; refine app64 rfl _ _ rfl wo.heap.size _ (.slice ad9 c.length cap9) c (i : Int) rfl hF _ rfl rfl (by omega) (by omega) ?_; intro v' w3 hF3 hb3)
            go_roundw
            case rel => exact ⟨i + 1, by omega, by go_num, by rw [HR.out]; exact hF3, T9.trans hb3⟩
            case measure => simp [intOf]; omega
          · have HR : Hid (rowC o q (i + 1) = c) := Lib.hid (by rw [rowC, if_neg (by rw [hx]; exact hxq), HCC.out])
            have e1 : (x == q) = false := by simp [hxq]
            clear hx hxq
            go_wp2
            go_roundw
            case rel => exact ⟨i + 1, by omega, by go_num, by rw [HR.out]; exact hF, T9⟩
            case measure => simp [intOf]; omega
        · have hE : i = N := by omega
          have HR : Hid (rowsC o N (k + 1) = xss ++ [c]) := Lib.hid (by rw [rowsC, HX.out, HQ.out, ← hE, HCC.out])
          have HS9 := HS.out.own T9
          clear hE
          go_wp2_with (at_builtin; refine appSS rfl _ _ rfl w5.heap.size wo wr (.slice ad7 k cap7) xss (.slice ad9 c.length cap9) c rfl HS.out (grow_below T9) (ownsRow_weakZ hF hzr) (fun g hg => (World.ownsRow.lt hF g hg).1) rfl wr.heap.size rfl rfl (by have := HRL.out; omega) (by omega) ?_; intro v' w' hG2 hb2)
          go_roundw
          case rel => exact ⟨k + 1, by omega, by rw [← HQ.out]; go_num, by rw [HR.out]; exact hG2, (T.trans (T9.mono hzr)).trans hb2⟩
          case measure => simp [intOf]; have := HQ.out; omega
    · obtain rfl : k = s := by omega
      go_wp2
      go_ret2
      exact ⟨_, rfl, by rw [HX.out]; exact hS.weakZ hz5, T5.trans (T.mono hz5)⟩
end Go.Proofs.Ytajfjfgpiggekaa
