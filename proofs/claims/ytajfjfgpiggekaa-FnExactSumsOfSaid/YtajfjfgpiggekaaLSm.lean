/- The walk of the law FnExactSumsOf. -/
import Derived.Test.YtajfjfgpiggekaaSmS
import Derived.Test.YtajfjfgpiggekaaMkFM
namespace Go.Proofs.Ytajfjfgpiggekaa
open Go.ChangeShapes Go.WideShapes Go.ChangeAt Go.RowKit

set_option maxHeartbeats 1000000 in
theorem lawSumsOf_of (a0 : Int) (xs : List Int) (k : Int) (m : Nat) (hm : m ≤ 100000)
    (hs : ∀ w : World, Calls Try.prog 20 #[(.int .i64 a0)] w (RetFs m xs k w))
    (hi : ∀ w : World, Calls Try.prog 21 #[(.int .i64 a0)] w (RetFs m xs k w)) (w : World) :
    Calls Try.prog 6 #[(.int .i64 a0)] w fun e w' => e = .returned (.bool true) ∧ Below w.heap.size w w' := by
  have HS := Lib.hid hs
  have HI := Lib.hid hi
  clear hs hi
  go_enter Try.func6, Try.ntmps6
  go_wp2_with fail
  refine (HS.out _).mono ?_
  rintro e w2 ⟨v0, rfl, s0, hb2⟩
  go_wp2_with fail
  refine (HI.out _).mono ?_
  rintro e w4 ⟨v1, rfl, s1, hb4⟩
  have s0 := s0.own hb4
  go_wp2_with fail
  refine (eqFS_same _ _ m xs _ _ _ _ _ (by omega) s1 s0).mono ?_
  rintro e w5 ⟨rfl, hb5⟩
  have s0 := s0.own hb5
  have s1 := s1.own hb5
  have z2 := hb2.size
  have z4 := hb4.size
  have z5 := hb5.size
  go_wp2_with fail
  refine (markFS_any _ m xs 1 _ _ _ (by omega) (by omega) (by omega) s1).mono ?_
  rintro e w6 ⟨rfl, s1, hb6⟩
  have s0 := s0.below (hb6.mono (by omega))
  have z6 := hb6.size
  go_wp2_with fail
  refine (heldFS_ramp _ 1 m _ _ _ (by omega) (by omega) (by omega) s1).mono ?_
  rintro e w7 ⟨rfl, rfl⟩
  have t5 : Below w.heap.size w w5 := by repeat (first | with_reducible exact own_refl _ | with_reducible assumption | with_reducible apply own_alloc | with_reducible apply own_drewN | with_reducible apply own_drew | ((with_reducible refine own_setCell ?_ ?_ _); rotate_left; focus (first | (simp; done) | (simp; omega))) | (with_reducible (refine own_trans ?_ (by assumption))))
  have t6 := t5.trans (hb6.mono (by omega))
  go_wp2_with fail
  refine (HI.out _).mono ?_
  rintro e w9 ⟨v2, rfl, s2, hb9⟩
  have s0 := s0.own hb9
  have s1 := s1.own hb9
  go_wp2_with fail
  refine (eqFS_same _ _ m xs _ _ _ _ _ (by omega) s2 s0).mono ?_
  rintro e w10 ⟨rfl, hb10⟩
  have s1 := s1.own hb10
  go_wp2_with fail
  refine (heldFS_ramp _ 1 m _ _ _ (by omega) (by omega) (by omega) s1).mono ?_
  rintro e w11 ⟨rfl, rfl⟩
  go_wp2
  go_ret
  exact ⟨rfl, (t6.trans (hb9.mono (by omega))).trans (hb10.mono (by have := hb9.size; omega))⟩
theorem lawSumsOf_walk (k : Int) (_ : I64 k) (w : World) :
    Calls Try.prog 6 #[(.int .i64 k)] w fun e w' => e = .returned (.bool true) ∧ Below w.heap.size w w' := by
  by_cases h : 1 ≤ k ∧ k ≤ 100
  · have h1 := cop_len k k.toNat
    exact lawSumsOf_of k _ 0 (cop k k.toNat).length (by omega) (fun w => specSums_yes k k.toNat _ (by omega) h.1 h.2 rfl w) (fun w => implSums_yes k k.toNat _ (by omega) h.1 h.2 rfl w) w
  · exact lawSumsOf_of k [] 2 0 (by omega) (fun w => specSums_no k (decide_eq_false h) w) (fun w => implSums_no k h w) w
end Go.Proofs.Ytajfjfgpiggekaa
