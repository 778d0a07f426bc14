/- The walk of the law FnExactMatricesWithin. -/
import Derived.Test.YtempjimoiipkmaaMwI
import Derived.Test.YtempjimoiipkmaaMkM
namespace Go.Proofs.Ytempjimoiipkmaa
open Go.ChangeShapes Go.WideShapes Go.ChangeAt Go.RowKit

set_option maxHeartbeats 1000000 in
theorem lawMw_of (a0 : Int) (xs : List Int) (k : Int)
    (hs : ∀ w : World, Calls Try.prog 11 #[(.int .i64 a0)] w fun e w' => ∃ m, m ≤ 100000 ∧ RetA m xs k w e w')
    (hi : ∀ w : World, Calls Try.prog 12 #[(.int .i64 a0)] w fun e w' => ∃ m, m ≤ 100000 ∧ RetA m xs k w e w') (w : World) :
    Calls Try.prog 5 #[(.int .i64 a0)] w fun e w' => e = .returned (.bool true) ∧ Below w.heap.size w w' := by
  have HS := Lib.hid hs
  have HI := Lib.hid hi
  clear hs hi
  go_enter Try.func5, Try.ntmps5
  go_wp2_with fail
  refine (HS.out _).mono ?_
  rintro e w2 ⟨m, hm, v0, rfl, s0, hb2⟩
  go_wp2_with fail
  refine (HI.out _).mono ?_
  rintro e w4 ⟨m', hm', v1, rfl, s1, hb4⟩
  obtain rfl : m' = m := by have := s0.1; have := s1.1; omega
  have s0 := s0.own hb4
  go_wp2_with fail
  refine (eqA_same _ _ m' xs _ _ _ _ _ (by omega) s1 s0).mono ?_
  rintro e w5 ⟨rfl, hb5⟩
  have s0 := s0.own hb5
  have s1 := s1.own hb5
  have z2 := hb2.size
  have z4 := hb4.size
  have z5 := hb5.size
  go_wp2_with fail
  refine (markA_any _ m' xs 1 _ _ _ (by omega) (by omega) (by omega) s1).mono ?_
  rintro e w6 ⟨rfl, s1, hb6⟩
  have s0 := s0.below (hb6.mono (by omega))
  have z6 := hb6.size
  go_wp2_with fail
  refine (heldA_ramp _ 1 m' _ _ _ (by omega) (by omega) (by omega) s1).mono ?_
  rintro e w7 ⟨rfl, rfl⟩
  go_wp2_with fail
  refine (HI.out _).mono ?_
  rintro e w9 ⟨m2, hm2, v2, rfl, s2, hb9⟩
  obtain rfl : m2 = m' := by have := s0.1; have := s2.1; omega
  have s0 := s0.own hb9
  have s1 := s1.own hb9
  go_wp2_with fail
  refine (eqA_same _ _ m2 xs _ _ _ _ _ (by omega) s2 s0).mono ?_
  rintro e w10 ⟨rfl, hb10⟩
  have s1 := s1.own hb10
  go_wp2_with fail
  refine (heldA_ramp _ 1 m2 _ _ _ (by omega) (by omega) (by omega) s1).mono ?_
  rintro e w11 ⟨rfl, rfl⟩
  go_wp2
  go_ret
  refine ⟨rfl, ?_⟩
  have t5 : Below w.heap.size w w5 := by repeat (first | with_reducible exact own_refl _ | with_reducible assumption | with_reducible apply own_alloc | with_reducible apply own_drewN | with_reducible apply own_drew | ((with_reducible refine own_setCell ?_ ?_ _); rotate_left; focus (first | (simp; done) | (simp; omega))) | (with_reducible (refine own_trans ?_ (by assumption))))
  exact ((t5.trans (hb6.mono (by omega))).trans (hb9.mono (by omega))).trans (hb10.mono (by have := hb9.size; omega))
theorem lawMw_walk (n : Int) (_ : I64 n) (w : World) :
    Calls Try.prog 5 #[(.int .i64 n)] w fun e w' => e = .returned (.bool true) ∧ Below w.heap.size w w' := by
  by_cases h : 0 ≤ n ∧ n ≤ 3
  · obtain ⟨N, hN⟩ : ∃ N : Nat, (N : Int) = 2 * n + 1 := ⟨(2 * n + 1).toNat, by omega⟩
    exact lawMw_of n _ 0 (fun w => specMw_yes n h.1 h.2 N hN w) (fun w => implMw_yes n h.1 h.2 N hN w) w
  · exact lawMw_of n [] 2 (fun w => (specMw_no n h w).mono fun e w' h => ⟨0, by omega, h⟩) (fun w => (implMw_no n h w).mono fun e w' h => ⟨0, by omega, h⟩) w
end Go.Proofs.Ytempjimoiipkmaa
