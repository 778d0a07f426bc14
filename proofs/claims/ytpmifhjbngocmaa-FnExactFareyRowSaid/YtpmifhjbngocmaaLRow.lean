/- The walk of the law FnExactFareyRow. -/
import Derived.Test.YtpmifhjbngocmaaRowI
import Derived.Test.YtpmifhjbngocmaaRowS
import Derived.Test.YtpmifhjbngocmaaCol
import Derived.Test.YtpmifhjbngocmaaMkFM
namespace Go.Proofs.Ytpmifhjbngocmaa
open Go.ChangeShapes Go.WideShapes Go.ChangeAt Go.RowKit

theorem rowFun (n : Int) (w : World) :
    Calls Try.prog 36 #[(.int .i64 n)] w fun e w' => e = .returned (.func (.func 42) #[] #[.pointer (some ⟨w.heap.size, 0, none⟩)]) ∧ w' = w.alloc (.cells #[(.int .i64 n)] 2) := by
  go_enter Try.func36, Try.ntmps36
  go_wp2
  go_ret
  exact ⟨rfl, rfl⟩
theorem collect_row (n : Int) (h1 : 1 ≤ n) (h2 : n ≤ 20) (cb : Nat) (w : World) (hB : Box w cb [(.int .i64 n)]) :
    Calls Try.prog 38 #[.func (.func 42) #[] #[.pointer (some ⟨cb, 0, none⟩)]] w fun e w' => ∃ v, e = .returned v ∧ GrF w' w.heap.size v (rowAll n).length (flatQ (rowAll n)) ∧ Below w.heap.size w w' := by
  have hl := rowAll_len h1 h2
  have HA := Lib.hid (appendSeq_is (fun _ _ => by kernel_rfl) w (rowSeq n h1 (by omega) cb (fun k => k = cb) rfl w hB) (fun k hk => by have := hB.1; omega) (fun pre x h => by
    have := h.length_le; rw [List.length_append] at this; omega))
  go_enter Try.func38, Try.ntmps38
  go_wp2_with fail
  refine HA.out.mono ?_
  rintro e w1 ⟨v, ys, rfl, rfl, hG, hb1⟩
  go_wp2
  go_ret
  exact ⟨v, rfl, hG, hb1⟩
set_option maxHeartbeats 1000000 in
theorem implFarey_no (n : Int) (h : ¬ (1 ≤ n ∧ n ≤ 20)) (w : World) : Calls Try.prog 19 #[(.int .i64 n)] w (RetFw 0 [] 2 w) := by
  rcases (show n < 1 ∨ 20 < n by omega) with hn | hn
  all_goals
    clear h
    go_enter Try.func19, Try.ntmps19
    go_wp2
    go_ret2
    exact ⟨_, rfl, SlF.nil _ _ _ (Nat.le_refl _), by repeat (first | with_reducible exact own_refl _ | with_reducible assumption | with_reducible apply own_alloc | with_reducible apply own_drewN | with_reducible apply own_drew | ((with_reducible refine own_setCell ?_ ?_ _); rotate_left; focus (first | (simp; done) | (simp; omega))) | (with_reducible (refine own_trans ?_ (by assumption))))⟩
set_option maxHeartbeats 1000000 in
theorem implFarey_yes (n : Int) (h1 : 1 ≤ n) (h2 : n ≤ 20) (w : World) : Calls Try.prog 19 #[(.int .i64 n)] w (RetFw (rowAll n).length (flatQ (rowAll n)) 0 w) := by
  have h3 : ¬ n < 1 := by omega
  have h4 : ¬ 20 < n := by omega
  go_enter Try.func19, Try.ntmps19
  go_wp2_with fail
  refine (rowFun n _).mono ?_
  rintro e w2 ⟨rfl, rfl⟩
  go_wp2_with fail
  refine (collect_row n h1 h2 w.heap.size _ (Box.new _ _ _)).mono ?_
  rintro e w3 ⟨v, rfl, hG, hb3⟩
  go_wp2
  go_ret2
  exact ⟨v, rfl, hG.sl.weak (by simp), by repeat (first | with_reducible exact own_refl _ | with_reducible assumption | with_reducible apply own_alloc | with_reducible apply own_drewN | with_reducible apply own_drew | ((with_reducible refine own_setCell ?_ ?_ _); rotate_left; focus (first | (simp; done) | (simp; omega))) | (with_reducible (refine own_trans ?_ (by assumption))))⟩
set_option maxHeartbeats 1000000 in
theorem lawFareyRow_of (a0 : Int) (xs : List Int) (k : Int) (m : Nat) (hm : m ≤ 100000)
    (hs : ∀ w : World, Calls Try.prog 18 #[(.int .i64 a0)] w (RetFw m xs k w))
    (hi : ∀ w : World, Calls Try.prog 19 #[(.int .i64 a0)] w (RetFw m xs k w)) (w : World) :
    Calls Try.prog 6 #[(.int .i64 a0)] w fun e w' => e = .returned (.bool true) ∧ Below w.heap.size w w' := by
  have HS := Lib.hid hs
  have HI := Lib.hid hi
  clear hs hi
  go_enter Try.func6, Try.ntmps6
  go_wp2_with fail
  refine (HS.out _).mono ?_
  rintro e w2 ⟨v0, rfl, s0, hb2⟩
  go_wp2_with fail
  refine (HI.out _).mono ?_
  rintro e w4 ⟨v1, rfl, s1, hb4⟩
  have s0 := s0.own hb4
  go_wp2_with fail
  refine (eqFS_same _ _ m xs _ _ _ _ _ (by omega) s1 s0).mono ?_
  rintro e w5 ⟨rfl, hb5⟩
  have s0 := s0.own hb5
  have s1 := s1.own hb5
  have z2 := hb2.size
  have z4 := hb4.size
  have z5 := hb5.size
  go_wp2_with fail
  refine (markFS_any _ m xs 1 _ _ _ (by omega) (by omega) (by omega) s1).mono ?_
  rintro e w6 ⟨rfl, s1, hb6⟩
  have s0 := s0.below (hb6.mono (by omega))
  have z6 := hb6.size
  go_wp2_with fail
  refine (heldFS_ramp _ 1 m _ _ _ (by omega) (by omega) (by omega) s1).mono ?_
  rintro e w7 ⟨rfl, rfl⟩
  have t5 : Below w.heap.size w w5 := by repeat (first | with_reducible exact own_refl _ | with_reducible assumption | with_reducible apply own_alloc | with_reducible apply own_drewN | with_reducible apply own_drew | ((with_reducible refine own_setCell ?_ ?_ _); rotate_left; focus (first | (simp; done) | (simp; omega))) | (with_reducible (refine own_trans ?_ (by assumption))))
  have t6 := t5.trans (hb6.mono (by omega))
  go_wp2_with fail
  refine (HI.out _).mono ?_
  rintro e w9 ⟨v2, rfl, s2, hb9⟩
  have s0 := s0.own hb9
  have s1 := s1.own hb9
  go_wp2_with fail
  refine (eqFS_same _ _ m xs _ _ _ _ _ (by omega) s2 s0).mono ?_
  rintro e w10 ⟨rfl, hb10⟩
  have s1 := s1.own hb10
  go_wp2_with fail
  refine (heldFS_ramp _ 1 m _ _ _ (by omega) (by omega) (by omega) s1).mono ?_
  rintro e w11 ⟨rfl, rfl⟩
  go_wp2
  go_ret
  exact ⟨rfl, (t6.trans (hb9.mono (by omega))).trans (hb10.mono (by have := hb9.size; omega))⟩
theorem lawFareyRow_walk (n : Int) (_ : I64 n) (w : World) :
    Calls Try.prog 6 #[(.int .i64 n)] w fun e w' => e = .returned (.bool true) ∧ Below w.heap.size w w' := by
  by_cases h : 1 ≤ n ∧ n ≤ 20
  · have := rowAll_len h.1 h.2
    exact lawFareyRow_of n _ 0 _ (by omega) (fun w => specFarey_yes n h.1 h.2 w) (fun w => implFarey_yes n h.1 h.2 w) w
  · exact lawFareyRow_of n [] 2 0 (by omega) (fun w => specFarey_no n (decide_eq_false h) w) (fun w => implFarey_no n h w) w
end Go.Proofs.Ytpmifhjbngocmaa
