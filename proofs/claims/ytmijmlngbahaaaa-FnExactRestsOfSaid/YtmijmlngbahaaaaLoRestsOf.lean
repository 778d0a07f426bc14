/- The walk of the law FnExactRestsOf, where both sides answer alike. -/
import Derived.Test.YtmijmlngbahaaaaB
import Derived.Test.YtmijmlngbahaaaaSl
import Derived.Test.YtmijmlngbahaaaaRest
namespace Go.Proofs.Ytmijmlngbahaaaa
open Go.ChangeShapes Go.WideShapes Go.ChangeAt Go.RowKit

set_option maxHeartbeats 1000000 in
theorem lawRestsOf_of (a0 b0 c0 d0 : Int) (a1 : Int) (xs : List Int) (k : Int) (hn : xs.length ≤ 1000000)
    (hs : ∀ w : World, Calls Try.prog 29 #[(.agg #[.int .i64 a0, .int .i64 b0, .int .i64 c0, .int .i64 d0]), (.int .i64 a1)] w (RetS xs k w))
    (hi : ∀ w : World, Calls Try.prog 30 #[(.agg #[.int .i64 a0, .int .i64 b0, .int .i64 c0, .int .i64 d0]), (.int .i64 a1)] w (RetS xs k w)) (w : World) :
    Calls Try.prog 10 #[(.agg #[.int .i64 a0, .int .i64 b0, .int .i64 c0, .int .i64 d0]), (.int .i64 a1)] w fun e w' => e = .returned (.bool true) ∧ Below w.heap.size w w' := by
  have HS := Lib.hid hs
  have HI := Lib.hid hi
  clear hs hi
  go_enter Try.func10, Try.ntmps10
  go_wp2_with fail
  refine (toMatrix_any _ _ _ _ _).mono ?_
  rintro e w1 ⟨rfl, hb1⟩
  have Bw1_0 : Box w1 (w.heap.size) [.int .i64 a0, .int .i64 b0, .int .i64 c0, .int .i64 d0] := by refine Box.below ?_ hb1; repeat (first | with_reducible assumption | with_reducible exact Box.new _ _ _ | (with_reducible refine Box.newAt ?_ _ _; (simp; done)) | with_reducible apply Box.alloc | with_reducible apply Box.drewN | with_reducible apply Box.drew)
  obtain ⟨_, _, _, _, _, _, _, _, _⟩ := Bw1_0.four
  go_wp2_with fail
  refine (HS.out _).mono ?_
  rintro e w2 ⟨v0, rfl, s0, hb2⟩
  have Bw2_0 : Box w2 (w.heap.size) [.int .i64 a0, .int .i64 b0, .int .i64 c0, .int .i64 d0] := by refine Box.below ?_ hb2; repeat (first | with_reducible assumption | with_reducible exact Box.new _ _ _ | (with_reducible refine Box.newAt ?_ _ _; (simp; done)) | with_reducible apply Box.alloc | with_reducible apply Box.drewN | with_reducible apply Box.drew)
  obtain ⟨_, _, _, _, _, _, _, _, _⟩ := Bw2_0.four
  go_wp2_with fail
  refine (toMatrix_any _ _ _ _ _).mono ?_
  rintro e w3 ⟨rfl, hb3⟩
  have Bw3_0 : Box w3 (w.heap.size) [.int .i64 a0, .int .i64 b0, .int .i64 c0, .int .i64 d0] := by refine Box.below ?_ hb3; repeat (first | with_reducible assumption | with_reducible exact Box.new _ _ _ | (with_reducible refine Box.newAt ?_ _ _; (simp; done)) | with_reducible apply Box.alloc | with_reducible apply Box.drewN | with_reducible apply Box.drew)
  obtain ⟨_, _, _, _, _, _, _, _, _⟩ := Bw3_0.four
  go_wp2_with fail
  refine (HI.out _).mono ?_
  rintro e w4 ⟨v1, rfl, s1, hb4⟩
  have Bw4_0 : Box w4 (w.heap.size) [.int .i64 a0, .int .i64 b0, .int .i64 c0, .int .i64 d0] := by refine Box.below ?_ hb4; repeat (first | with_reducible assumption | with_reducible exact Box.new _ _ _ | (with_reducible refine Box.newAt ?_ _ _; (simp; done)) | with_reducible apply Box.alloc | with_reducible apply Box.drewN | with_reducible apply Box.drew)
  obtain ⟨_, _, _, _, _, _, _, _, _⟩ := Bw4_0.four
  have s0 := s0.own hb3
  have s0 := s0.own hb4
  go_wp2_with fail
  refine (eqS_same _ _ xs _ _ _ _ _ (by omega) s1 s0).mono ?_
  rintro e w5 ⟨rfl, hb5⟩
  have Bw5_0 : Box w5 (w.heap.size) [.int .i64 a0, .int .i64 b0, .int .i64 c0, .int .i64 d0] := by refine Box.below ?_ hb5; repeat (first | with_reducible assumption | with_reducible exact Box.new _ _ _ | (with_reducible refine Box.newAt ?_ _ _; (simp; done)) | with_reducible apply Box.alloc | with_reducible apply Box.drewN | with_reducible apply Box.drew)
  obtain ⟨_, _, _, _, _, _, _, _, _⟩ := Bw5_0.four
  have s0 := s0.own hb5
  have s1 := s1.own hb5
  have z2 := hb2.size
  have z3 := hb3.size
  have z4 := hb4.size
  have z5 := hb5.size
  try simp only [World.size_alloc] at z2 z3 z4 z5
  go_wp2_with fail
  refine (markS_any _ xs 1 _ _ _ (by omega) (by omega) (by omega) s1).mono ?_
  rintro e w6 ⟨rfl, s1, hb6⟩
  have s0 := s0.below (hb6.mono (by omega))
  have z6 := hb6.size
  have Bw6_0 : Box w6 w.heap.size [.int .i64 a0, .int .i64 b0, .int .i64 c0, .int .i64 d0] := Bw5_0.low hb6 (by omega)
  obtain ⟨_, _, _, _, _, _, _, _, _⟩ := Bw6_0.four
  go_wp2_with fail
  refine (heldS_ramp _ 1 xs.length _ _ _ (by omega) (by omega) (by omega) s1).mono ?_
  rintro e w7 ⟨rfl, rfl⟩
  go_wp2_with fail
  refine (toMatrix_any _ _ _ _ _).mono ?_
  rintro e w8 ⟨rfl, hb8⟩
  have Bw8_0 : Box w8 (w.heap.size) [.int .i64 a0, .int .i64 b0, .int .i64 c0, .int .i64 d0] := by refine Box.below ?_ hb8; repeat (first | with_reducible assumption | with_reducible exact Box.new _ _ _ | (with_reducible refine Box.newAt ?_ _ _; (simp; done)) | with_reducible apply Box.alloc | with_reducible apply Box.drewN | with_reducible apply Box.drew)
  obtain ⟨_, _, _, _, _, _, _, _, _⟩ := Bw8_0.four
  have s0 := s0.own hb8
  have s1 := s1.own hb8
  go_wp2_with fail
  refine (HI.out _).mono ?_
  rintro e w9 ⟨v2, rfl, s2, hb9⟩
  have s0 := s0.own hb9
  have s1 := s1.own hb9
  go_wp2_with fail
  refine (eqS_same _ _ xs _ _ _ _ _ (by omega) s2 s0).mono ?_
  rintro e w10 ⟨rfl, hb10⟩
  have s1 := s1.own hb10
  go_wp2_with fail
  refine (heldS_ramp _ 1 xs.length _ _ _ (by omega) (by omega) (by omega) s1).mono ?_
  rintro e w11 ⟨rfl, rfl⟩
  go_wp2
  go_ret
  refine ⟨rfl, ?_⟩
  have t5 : Below w.heap.size w w5 := by repeat (first | with_reducible exact own_refl _ | with_reducible assumption | with_reducible apply own_alloc | with_reducible apply own_drewN | with_reducible apply own_drew | ((with_reducible refine own_setCell ?_ ?_ _); rotate_left; focus (first | (simp; done) | (simp; omega))) | (with_reducible (refine own_trans ?_ (by assumption))))
  exact ((((t5.trans (hb6.mono (by omega))).trans (hb8.mono (by omega))).trans (hb9.mono (by have := hb8.size; omega))).trans (hb10.mono (by have := hb8.size; have := hb9.size; omega)))
end Go.Proofs.Ytmijmlngbahaaaa
