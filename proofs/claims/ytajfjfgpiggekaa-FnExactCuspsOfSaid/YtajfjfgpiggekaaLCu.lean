/- The walk of the law FnExactCuspsOf. -/
import Derived.Test.YtajfjfgpiggekaaCuI
import Derived.Test.YtajfjfgpiggekaaCuP
namespace Go.Proofs.Ytajfjfgpiggekaa
open Go.ChangeShapes Go.WideShapes Go.ChangeAt Go.RowKit

set_option maxHeartbeats 1000000 in
theorem lawCuspsOf_of (n : Int) (xss : List (List Int)) (k : Int) (hn : xss.length ≤ 1000000) (hM : sumL xss ≤ 1000000) (hm : ∀ xs ∈ xss, xs.length ≤ 1000000)
    (hs : ∀ w : World, Calls Try.prog 37 #[(.int .i64 n)] w (RetSS xss k w))
    (hi : ∀ w : World, Calls Try.prog 38 #[(.int .i64 n)] w (RetSS xss k w)) (w : World) :
    Calls Try.prog 11 #[(.int .i64 n)] w fun e w' => e = .returned (.bool true) ∧ Below w.heap.size w w' := by
  have HS := Lib.hid hs
  have HI := Lib.hid hi
  have HM := Lib.hid hm
  clear hs hi hm
  go_enter Try.func11, Try.ntmps11
  go_wp2_with fail
  refine (HS.out _).mono ?_
  rintro e w2 ⟨v0, rfl, s0, hb2⟩
  go_wp2_with fail
  refine (HI.out _).mono ?_
  rintro e w4 ⟨v1, rfl, s1, hb4⟩
  have s04 := s0.own hb4
  go_wp2_with fail
  refine (eqSS_same _ _ xss _ _ _ hn HM.out s1 s04).mono ?_
  rintro e w5 ⟨rfl, hb5⟩
  have s15 := s1.own hb5
  have z4 := hb4.size
  have z5 := hb5.size
  have t25 := own_trans hb4 hb5
  go_wp2_with fail
  refine (markSS_any _ xss 1 _ _ hn hM (by omega) (by omega) (by omega) s15).mono ?_
  rintro e w6 ⟨rfl, s16, hb6⟩
  have z6 := hb6.size
  have t26 := t25.trans hb6
  go_wp2_with fail
  refine (heldSS_mk _ xss 1 _ _ hn hM (by omega) (by omega) s16).mono ?_
  rintro e w7 ⟨rfl, rfl⟩
  go_wp2_with fail
  refine (HI.out _).mono ?_
  rintro e w9 ⟨v2, rfl, s2, hb9⟩
  have s09 := s0.own (own_trans t26 hb9)
  have s19 := s16.own hb9
  go_wp2_with fail
  refine (eqSS_same _ _ xss _ _ _ hn HM.out s2 s09).mono ?_
  rintro e w10 ⟨rfl, hb10⟩
  have s110 := s19.own hb10
  go_wp2_with fail
  refine (heldSS_mk _ xss 1 _ _ hn hM (by omega) (by omega) s110).mono ?_
  rintro e w11 ⟨rfl, rfl⟩
  go_wp2
  go_ret
  exact ⟨rfl, own_trans hb2 (own_trans (own_trans t26 hb9) hb10)⟩

theorem sumL_snoc (xs : List Int) : ∀ xss : List (List Int), sumL (xss ++ [xs]) = sumL xss + xs.length
  | [] => by simp [sumL]
  | ys :: xss => by
    have := sumL_snoc xs xss
    simp only [List.cons_append, sumL] at *
    omega
theorem sumL_step (o : List Int) (N : Nat) : ∀ k : Nat, sumL (rowsC o (N + 1) k) = sumL (rowsC o N k) + (if 0 ≤ o.getD N 0 ∧ o.getD N 0 < k then 1 else 0)
  | 0 => by
    have : ¬ (0 ≤ o.getD N 0 ∧ o.getD N 0 < (0 : Nat)) := by omega
    rw [if_neg this]; rfl
  | k + 1 => by
    have ih := sumL_step o N k
    rw [rowsC, rowsC, sumL_snoc, sumL_snoc, ih, rowC]
    by_cases e : o.getD N 0 = (k : Int)
    · rw [if_pos e, if_neg (by omega), if_pos (by omega)]
      simp
      omega
    · rw [if_neg e]
      by_cases e2 : 0 ≤ o.getD N 0 ∧ o.getD N 0 < k
      · rw [if_pos e2, if_pos (by omega)]; omega
      · rw [if_neg e2, if_neg (by omega)]; omega
theorem sumL_rows (o : List Int) (k : Nat) : ∀ N : Nat, sumL (rowsC o N k) ≤ N
  | 0 => by
    have : ∀ k, sumL (rowsC o 0 k) = 0 := fun k => by
      induction k with
      | zero => rfl
      | succ k ih => rw [rowsC, sumL_snoc, ih]; rfl
    rw [this]
    exact Nat.le_refl _
  | N + 1 => by
    have := sumL_rows o k N
    rw [sumL_step]
    split <;> omega
theorem rowsC_mem {o : List Int} {N : Nat} : ∀ {k : Nat} {xs : List Int}, xs ∈ rowsC o N k → xs.length ≤ N
  | 0, xs, h => by simp [rowsC] at h
  | k + 1, xs, h => by
    rw [rowsC, List.mem_append, List.mem_singleton] at h
    rcases h with h | rfl
    · exact rowsC_mem h
    · exact rowC_len N
theorem ln_some {n : Int} (h1 : 1 ≤ n) : 0 < (ln n).length := by
  obtain ⟨K, hK, _⟩ := nrm_in h1 (show isP n 0 1 = true by simp [isP])
  omega
theorem lawCuspsOf_walk (n : Int) (_ : I64 n) (w : World) :
    Calls Try.prog 11 #[(.int .i64 n)] w fun e w' => e = .returned (.bool true) ∧ Below w.heap.size w w' := by
  rcases hn : inR n 1 60 with _ | _
  · exact lawCuspsOf_of n [] 2 (by simp) (by simp [sumL]) (by simp) (fun w => specCu_no n hn w) (fun w => implCu_no n hn w) w
  · have hn' : 1 ≤ n ∧ n ≤ 60 := of_decide_eq_true hn
    have hb := ln_len (n := n) hn'.2
    have h0 := ln_some hn'.1
    obtain ⟨N, hN⟩ : ∃ N, (ln n).length = N := ⟨_, rfl⟩
    have hs := (cus_len n N).2
    have h1 := sumL_rows (cus n N).1 (cus n N).2 N
    have h2 := rowsC_len (cus n N).1 N (cus n N).2
    have he := cys_rows hn'.1 hN
    exact lawCuspsOf_of n (rowsC (cus n N).1 N (cus n N).2) 0 (by omega) (by omega) (fun xs hx => by have := rowsC_mem hx; omega) (fun w => specCu_yes n hn N hN w) (fun w => he ▸ implCu_yes n hn N hN (by omega) w) w
end Go.Proofs.Ytajfjfgpiggekaa
