/- The walk of the law FnExactChainOfFraction. -/
import Derived.Test.YtejghidllochoaaChF
import Derived.Test.YtejghidllochoaaMkFM
import Derived.Test.YtejghidllochoaaB
import Derived.Test.YtejghidllochoaaF
namespace Go.Proofs.Ytejghidllochoaa
open Go.ChangeShapes Go.WideShapes Go.ChangeAt Go.RowKit

set_option maxHeartbeats 2000000 in
theorem lawChainOfFraction_of (p q : Int) (xs : List Int) (k : Int) (m : Nat) (hm : m ≤ 100000)
    (hs : ∀ w : World, Calls Try.prog 5 #[(.agg #[.int .i64 p, .int .i64 q])] w (RetQ m xs k w))
    (hi : ∀ w : World, Calls Try.prog 7 #[(.agg #[.int .i64 p, .int .i64 q])] w (RetQ m xs k w)) (w : World) :
    Calls Try.prog 3 #[(.agg #[.int .i64 p, .int .i64 q])] w fun e w' => e = .returned (.bool true) ∧ Below w.heap.size w w' := by
  have HS := Lib.hid hs
  have HI := Lib.hid hi
  clear hs hi
  go_enter Try.func3, Try.ntmps3
  go_wp2_with fail
  refine (toFraction_any _ _ _).mono ?_
  rintro e w1 ⟨rfl, hb1⟩
  have t1 : Below w.heap.size w w1 := by repeat (first | with_reducible exact own_refl _ | with_reducible assumption | with_reducible apply own_alloc | with_reducible apply own_drewN | with_reducible apply own_drew | ((with_reducible refine own_setCell ?_ ?_ _); rotate_left; focus (first | (simp; done) | (simp; omega))) | (with_reducible (refine own_trans ?_ (by assumption))))
  have A1 : Box w1 w.heap.size [.int .i64 p, .int .i64 q] := (Box.new _ _ _).below hb1
  obtain ⟨_, _, _, _, _⟩ := A1.two
  go_wp2_with fail
  refine (HS.out _).mono ?_
  rintro e w2 ⟨v0, rfl, s0, hb2⟩
  have t2 := own_trans t1 hb2
  have A2 := A1.below hb2
  obtain ⟨_, _, _, _, _⟩ := A2.two
  go_wp2_with fail
  refine (toFraction_any _ _ _).mono ?_
  rintro e w3 ⟨rfl, hb3⟩
  have t3 := own_trans t2 hb3
  have A3 := A2.below hb3
  have s0 := s0.own hb3
  go_wp2_with fail
  refine (HI.out _).mono ?_
  rintro e w4 ⟨v1, rfl, s1, hb4⟩
  have t4 := own_trans t3 hb4
  have A4 := A3.below hb4
  have s0 := s0.own hb4
  go_wp2_with fail
  refine (eqFS_same _ _ m xs _ _ _ _ _ (by omega) s1 s0).mono ?_
  rintro e w5 ⟨rfl, hb5⟩
  have t5 := own_trans t4 hb5
  have A5 := A4.below hb5
  have s0 := s0.own hb5
  have s1 := s1.own hb5
  have z1 := t1.size
  have z2 := hb2.size
  have z3 := hb3.size
  have z4 := hb4.size
  have z5 := hb5.size
  have zA := A1.1
  go_wp2_with fail
  refine (markFS_any _ m xs 1 _ _ _ (by omega) (by omega) (by omega) s1).mono ?_
  rintro e w6 ⟨rfl, s1, hb6⟩
  have s0 := s0.below (hb6.mono (by omega))
  have z6 := hb6.size
  have A6 : Box w6 w.heap.size [.int .i64 p, .int .i64 q] := A5.of_heap (hb6.block _ (by omega)) z6
  go_wp2_with fail
  refine (heldFS_ramp _ 1 m _ _ _ (by omega) (by omega) (by omega) s1).mono ?_
  rintro e w7 ⟨rfl, rfl⟩
  have t6 := t5.trans (hb6.mono (by omega))
  obtain ⟨_, _, _, _, _⟩ := A6.two
  go_wp2_with fail
  refine (toFraction_any _ _ _).mono ?_
  rintro e w8 ⟨rfl, hb8⟩
  have t8 := own_trans t6 hb8
  have s0 := s0.own hb8
  have s1 := s1.own hb8
  go_wp2_with fail
  refine (HI.out _).mono ?_
  rintro e w9 ⟨v2, rfl, s2, hb9⟩
  have t9 := own_trans t8 hb9
  have s0 := s0.own hb9
  have s1 := s1.own hb9
  go_wp2_with fail
  refine (eqFS_same _ _ m xs _ _ _ _ _ (by omega) s2 s0).mono ?_
  rintro e w10 ⟨rfl, hb10⟩
  have t10 := own_trans t9 hb10
  have s1 := s1.own hb10
  go_wp2_with fail
  refine (heldFS_ramp _ 1 m _ _ _ (by omega) (by omega) (by omega) s1).mono ?_
  rintro e w11 ⟨rfl, rfl⟩
  go_wp2
  go_ret
  exact ⟨rfl, t10⟩
theorem lawChainOfFraction_walk (p q : Int) (_ : I64 p) (_ : I64 q) (w : World) :
    Calls Try.prog 3 #[(.agg #[.int .i64 p, .int .i64 q])] w fun e w' => e = .returned (.bool true) ∧ Below w.heap.size w w' := by
  rcases h : isF p q with _ | _
  · exact lawChainOfFraction_of p q [] 1 0 (by omega) (fun w => specCh_no p q h w) (fun w => implCh_no p q h w) w
  · have hE := isF_ent h
    rcases (show q = 0 ∨ 0 < q by omega) with hq | hq
    · refine lawChainOfFraction_of p q [1, 0] 0 1 (by omega) (fun w => ?_) (fun w => implCh_inf p q h hq w) w
      have := specCh_yes p q h [] (by rw [hq]; rfl) w
      simpa [chQ, flatQ, cvs] using this
    · have hb := hE.2.1
      unfold Ent at hb
      have hl := cf_short 30 q.natAbs p q (by omega) (by omega)
      exact lawChainOfFraction_of p q _ 0 _ (by omega) (fun w => specCh_yes p q h _ rfl w) (fun w => implCh_yes p q h hq _ rfl (by omega) w) w
end Go.Proofs.Ytejghidllochoaa
