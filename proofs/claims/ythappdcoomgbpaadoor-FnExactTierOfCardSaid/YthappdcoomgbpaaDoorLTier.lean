/- The walk of the law FnExactTierOf. -/
import Derived.Test.YthappdcoomgbpaaDoorTier
import Derived.Test.YthappdcoomgbpaaDoorMkFM
namespace Go.Proofs.YthappdcoomgbpaaDoor
open Go.ChangeShapes Go.WideShapes Go.ChangeAt Go.RowKit

/-- What a call that makes a slice of fractions gives back. -/
def RetFr (n : Nat) (xs : List Int) (k : Int) (w : World) (e : Ending) (w' : World) : Prop :=
  ∃ v, e = .returned (.tuple #[v, (.int .i64 k)]) ∧ SlF w' w.heap.size w'.heap.size v n xs ∧ Below w.heap.size w w'
set_option maxHeartbeats 1000000 in
theorem implTier_no (n : Int) (h : ¬ (0 ≤ n ∧ n ≤ 7)) (w : World) : Calls Tryd.prog 20 #[(.int .i64 n)] w (RetFr 0 [] 2 w) := by
  rcases (show n < 0 ∨ 7 < n by omega) with hn | hn
  all_goals
    clear h
    go_enter Tryd.func20, Tryd.ntmps20
    go_wp2
    go_ret2
    exact ⟨_, rfl, SlF.nil _ _ _ (Nat.le_refl _), by repeat (first | with_reducible exact own_refl _ | with_reducible assumption | with_reducible apply own_alloc | with_reducible apply own_drewN | with_reducible apply own_drew | ((with_reducible refine own_setCell ?_ ?_ _); rotate_left; focus (first | (simp; done) | (simp; omega))) | (with_reducible (refine own_trans ?_ (by assumption))))⟩
theorem l01In_isT (r : Bool) (n : Int) (hr : inR n 0 7 = r) (w : World) : Calls Tryd.prog 41 #[(.int .i64 n), (.int .i64 0), (.int .i64 7)] w fun e w' => e = .returned (.bool r) ∧ w = w' := l01In_is r n 0 7 hr w
set_option maxHeartbeats 1000000 in
theorem specTier_no (n : Int) (h : ¬ (0 ≤ n ∧ n ≤ 7)) (w : World) : Calls Tryd.prog 19 #[(.int .i64 n)] w (RetFr 0 [] 2 w) := by
  have HN := Lib.hid (show inR n 0 7 = false from decide_eq_false h)
  clear h
  go_enter Tryd.func19, Tryd.ntmps19
  go_wp2_with fail
  refine (l01In_isT false _ HN.out _).mono ?_
  rintro e w1 ⟨rfl, rfl⟩
  go_wp2
  go_ret2
  exact ⟨_, rfl, SlF.nil _ _ _ (Nat.le_refl _), by repeat (first | with_reducible exact own_refl _ | with_reducible assumption | with_reducible apply own_alloc | with_reducible apply own_drewN | with_reducible apply own_drew | ((with_reducible refine own_setCell ?_ ?_ _); rotate_left; focus (first | (simp; done) | (simp; omega))) | (with_reducible (refine own_trans ?_ (by assumption))))⟩
set_option maxHeartbeats 1000000 in
theorem implTier_yes (n : Nat) (h : n ≤ 7) (w : World) (hid : Idn w) : Calls Tryd.prog 20 #[(.int .i64 n)] w (RetFr (2 ^ n) (tierL n Mat.one) 0 w) := by
  have HC := Lib.hid (tierBelow_any n Mat.one 0 Pl.one (by omega))
  have h1 : ¬ (n : Int) < 0 := by omega
  have h2 : ¬ (7 : Int) < n := by omega
  obtain ⟨_, _, _, _, _⟩ := Rd.four hid
  go_enter Tryd.func20, Tryd.ntmps20
  go_wp2_with fail
  refine (HC.out _).mono ?_
  rintro e w1 ⟨v, rfl, G, hb⟩
  have HS := Lib.hid G.sl
  clear G
  go_wp2
  go_ret2
  exact ⟨_, rfl, HS.out, by repeat (first | with_reducible exact own_refl _ | with_reducible assumption | with_reducible apply own_alloc | with_reducible apply own_drewN | with_reducible apply own_drew | ((with_reducible refine own_setCell ?_ ?_ _); rotate_left; focus (first | (simp; done) | (simp; omega))) | (with_reducible (refine own_trans ?_ (by assumption))))⟩
set_option maxHeartbeats 1000000 in
theorem specTier_yes (n : Nat) (h : n ≤ 7) (w : World) : Calls Tryd.prog 19 #[(.int .i64 n)] w (RetFr (2 ^ n) (tierL n Mat.one) 0 w) := by
  have HC := Lib.hid (specTier_any n Mat.one 0 Pl.one (by omega))
  have HN := Lib.hid (show inR (n : Int) 0 7 = true from decide_eq_true (by omega))
  go_enter Tryd.func19, Tryd.ntmps19
  go_wp2_with fail
  refine (l01In_isT true _ HN.out _).mono ?_
  rintro e w0 ⟨rfl, rfl⟩
  go_wp2_with fail
  refine (HC.out _).mono ?_
  rintro e w1 ⟨v, rfl, G, hb⟩
  have HS := Lib.hid G.sl
  clear G
  go_wp2
  go_ret2
  exact ⟨_, rfl, HS.out, by repeat (first | with_reducible exact own_refl _ | with_reducible assumption | with_reducible apply own_alloc | with_reducible apply own_drewN | with_reducible apply own_drew | ((with_reducible refine own_setCell ?_ ?_ _); rotate_left; focus (first | (simp; done) | (simp; omega))) | (with_reducible (refine own_trans ?_ (by assumption))))⟩
set_option maxHeartbeats 1000000 in
theorem lawTier_of (a0 : Int) (xs : List Int) (k : Int) (m : Nat) (hm : m ≤ 100000)
    (hs : ∀ w : World, Calls Tryd.prog 19 #[(.int .i64 a0)] w (RetFr m xs k w))
    (hi : ∀ w : World, Idn w → Calls Tryd.prog 20 #[(.int .i64 a0)] w (RetFr m xs k w)) (w : World) (hid : Idn w) :
    Calls Tryd.prog 6 #[(.int .i64 a0)] w fun e w' => e = .returned (.bool true) ∧ Below w.heap.size w w' := by
  have HS := Lib.hid hs
  have HI := Lib.hid hi
  clear hs hi
  go_enter Tryd.func6, Tryd.ntmps6
  go_wp2_with fail
  refine (HS.out _).mono ?_
  rintro e w2 ⟨v0, rfl, s0, hb2⟩
  go_wp2_with fail
  refine (HI.out _ (Rd.below hid hb2)).mono ?_
  rintro e w4 ⟨v1, rfl, s1, hb4⟩
  have s0 := s0.own hb4
  go_wp2_with fail
  refine (eqFS_same _ _ m xs _ _ _ _ _ (by omega) s1 s0).mono ?_
  rintro e w5 ⟨rfl, hb5⟩
  have s0 := s0.own hb5
  have s1 := s1.own hb5
  have z2 := hb2.size
  have z4 := hb4.size
  have z5 := hb5.size
  go_wp2_with fail
  refine (markFS_any _ m xs 1 _ _ _ (by omega) (by omega) (by omega) s1).mono ?_
  rintro e w6 ⟨rfl, s1, hb6⟩
  have s0 := s0.below (hb6.mono (by omega))
  have z6 := hb6.size
  go_wp2_with fail
  refine (heldFS_ramp _ 1 m _ _ _ (by omega) (by omega) (by omega) s1).mono ?_
  rintro e w7 ⟨rfl, rfl⟩
  have t5 : Below w.heap.size w w5 := by repeat (first | with_reducible exact own_refl _ | with_reducible assumption | with_reducible apply own_alloc | with_reducible apply own_drewN | with_reducible apply own_drew | ((with_reducible refine own_setCell ?_ ?_ _); rotate_left; focus (first | (simp; done) | (simp; omega))) | (with_reducible (refine own_trans ?_ (by assumption))))
  have t6 := t5.trans (hb6.mono (by omega))
  go_wp2_with fail
  refine (HI.out _ (Rd.below hid t6)).mono ?_
  rintro e w9 ⟨v2, rfl, s2, hb9⟩
  have s0 := s0.own hb9
  have s1 := s1.own hb9
  go_wp2_with fail
  refine (eqFS_same _ _ m xs _ _ _ _ _ (by omega) s2 s0).mono ?_
  rintro e w10 ⟨rfl, hb10⟩
  have s1 := s1.own hb10
  go_wp2_with fail
  refine (heldFS_ramp _ 1 m _ _ _ (by omega) (by omega) (by omega) s1).mono ?_
  rintro e w11 ⟨rfl, rfl⟩
  go_wp2
  go_ret
  exact ⟨rfl, (t6.trans (hb9.mono (by omega))).trans (hb10.mono (by have := hb9.size; omega))⟩
theorem lawTier_walk (n : Int) (_ : I64 n) (w : World) (hid : Idn w) :
    Calls Tryd.prog 6 #[(.int .i64 n)] w fun e w' => e = .returned (.bool true) ∧ Below w.heap.size w w' := by
  by_cases h : 0 ≤ n ∧ n ≤ 7
  · obtain ⟨k, rfl⟩ : ∃ k : Nat, n = k := ⟨n.toNat, by omega⟩
    have hk : k ≤ 7 := by omega
    exact lawTier_of _ (tierL k Mat.one) 0 (2 ^ k) (Nat.le_trans (Nat.pow_le_pow_right (by omega) hk) (by decide)) (fun w => specTier_yes k hk w) (fun w hid => implTier_yes k hk w hid) w hid
  · exact lawTier_of n [] 2 0 (by omega) (fun w => specTier_no n h w) (fun w _ => implTier_no n h w) w hid
end Go.Proofs.YthappdcoomgbpaaDoor
