/- The walk of the law FnExactFractionOfContinued, where both sides answer alike. -/
import Derived.Test.YtpmifhjbngocmaaB
import Derived.Test.YtpmifhjbngocmaaPA
import Derived.Test.YtpmifhjbngocmaaToS
import Derived.Test.YtpmifhjbngocmaaEqF
namespace Go.Proofs.Ytpmifhjbngocmaa
open Go.ChangeShapes Go.WideShapes Go.ChangeAt Go.RowKit

set_option maxHeartbeats 2000000 in
theorem lawFractionOfContinued_of (xs : List Int) (ad : Option Addr) (cap : Nat) (r0 r1 k : Int) (hn : xs.length ≤ 1048576)
    (hs : ∀ (v : Value) (L U : Nat) (w : World), Sl w L U v xs → (∃ a, v = .slice a xs.length xs.length) → Calls Try.prog 11 #[v] w fun e w' => e = .returned (.tuple #[(.agg #[.int .i64 r0, .int .i64 r1]), (.int .i64 k)]) ∧ Below w.heap.size w w')
    (hi : ∀ (v : Value) (L U : Nat) (w : World), Sl w L U v xs → (∃ a, v = .slice a xs.length xs.length) → Calls Try.prog 13 #[v] w fun e w' => e = .returned (.tuple #[(.agg #[.int .i64 r0, .int .i64 r1]), (.int .i64 k)]) ∧ Below w.heap.size w w') (w : World) (hr : Rs w ad xs) :
    Calls Try.prog 4 #[.slice ad xs.length cap] w fun e w' => e = .returned (.bool true) ∧ Below w.heap.size w w' := by
  have HS := Lib.hid hs
  have HI := Lib.hid hi
  have hn1 : (xs.length : Int) ≤ 1048576 := by omega
  clear hs hi
  go_enter Try.func4, Try.ntmps4
  go_wp2_with fail
  refine (toS_full ad cap xs hn _ hr).mono ?_
  rintro e w1 ⟨v1, rfl, s1, hb1, k1'⟩
  have k1 := Lib.hid k1'
  clear k1'
  go_wp2_with fail
  refine (HS.out _ _ _ _ s1 k1.out).mono ?_
  rintro e w2 ⟨rfl, hb2⟩
  have T2 : Below w.heap.size w w2 := by repeat (first | with_reducible exact own_refl _ | with_reducible assumption | with_reducible apply own_alloc | with_reducible apply own_drewN | with_reducible apply own_drew | ((with_reducible refine own_setCell ?_ ?_ _); rotate_left; focus (first | (simp; done) | (simp; omega))) | (with_reducible (refine own_trans ?_ (by assumption))))
  go_wp2_with fail
  refine (toS_full ad cap xs hn _ ((hr.below T2).below (own_alloc (own_refl _) _))).mono ?_
  rintro e w3 ⟨v3, rfl, s3, hb3, k3'⟩
  have k3 := Lib.hid k3'
  clear k3'
  have T3 : Below w.heap.size w w3 := by repeat (first | with_reducible exact own_refl _ | with_reducible assumption | with_reducible apply own_alloc | with_reducible apply own_drewN | with_reducible apply own_drew | ((with_reducible refine own_setCell ?_ ?_ _); rotate_left; focus (first | (simp; done) | (simp; omega))) | (with_reducible (refine own_trans ?_ (by assumption))))
  have R3 : Box w3 w2.heap.size [.int .i64 r0, .int .i64 r1] := Box.below (Box.new _ _ _) hb3
  go_wp2_with fail
  refine (HI.out _ _ _ _ s3 k3.out).mono ?_
  rintro e w4 ⟨rfl, hb4⟩
  have s4 := s3.own hb4
  obtain ⟨_, _, _, _, _⟩ := (R3.below hb4).two
  have n4 : ¬ (w4.heap.size = w2.heap.size) := Nat.ne_of_gt (R3.below hb4).1
  go_wp2_with fail
  refine (eqFraction_same _ _ _).mono ?_
  rintro e w5 ⟨rfl, hb5⟩
  have T5 : Below w.heap.size w w5 := by repeat (first | with_reducible exact own_refl _ | with_reducible assumption | with_reducible apply own_alloc | with_reducible apply own_drewN | with_reducible apply own_drew | ((with_reducible refine own_setCell ?_ ?_ _); rotate_left; focus (first | (simp; done) | (simp; omega))) | (with_reducible (refine own_trans ?_ (by assumption))))
  have s5 := (s4.own (own_alloc (own_refl _) _)).own hb5
  go_wp2_with fail
  refine (toS_any ad cap xs hn _ (hr.below T5)).mono ?_
  rintro e w6 ⟨v6, rfl, s6, hb6⟩
  have s7 := s5.own hb6
  go_wp2_with fail
  refine (eqS_same _ _ xs _ _ _ _ _ (by omega) s7 s6).mono ?_
  rintro e w7 ⟨rfl, hb7⟩
  go_wp2
  go_ret
  exact ⟨rfl, by repeat (first | with_reducible exact own_refl _ | with_reducible assumption | with_reducible apply own_alloc | with_reducible apply own_drewN | with_reducible apply own_drew | ((with_reducible refine own_setCell ?_ ?_ _); rotate_left; focus (first | (simp; done) | (simp; omega))) | (with_reducible (refine own_trans ?_ (by assumption))))⟩
set_option maxHeartbeats 1000000 in
theorem lawFractionOfContinued_long (xs : List Int) (ad : Option Addr) (cap : Nat) (hn : ¬ xs.length ≤ 1048576) (hn' : xs.length ≤ 9223372036854775807) (w : World) :
    Calls Try.prog 4 #[.slice ad xs.length cap] w fun e w' => e = .returned (.bool true) ∧ Below w.heap.size w w' := by
  have hn1 : (1048576 : Int) < (xs.length : Int) := by omega
  go_enter Try.func4, Try.ntmps4
  go_wp2
  go_ret
  exact ⟨rfl, own_refl _⟩
end Go.Proofs.Ytpmifhjbngocmaa
