/- The walk of the law FnExactDownPath. -/
import Derived.Test.YtkeadknbdihkmaaDoorDnI
import Derived.Test.YtkeadknbdihkmaaDoorDnS
import Derived.Test.YtkeadknbdihkmaaDoorMkH
namespace Go.Proofs.YtkeadknbdihkmaaDoor
open Go.ChangeShapes Go.WideShapes Go.ChangeAt Go.RowKit

set_option maxHeartbeats 1000000 in
theorem lawDownPath_of (a b c : Int) (xs : List Int) (k : Int) (m : Nat) (hm : m ≤ 1000000000)
    (hs : ∀ w : World, Calls Tryd.prog 11 #[(.agg #[.int .i64 a, .int .i64 b, .int .i64 c])] w (RetH m xs k w))
    (hi : ∀ w : World, FtT w → Calls Tryd.prog 13 #[(.agg #[.int .i64 a, .int .i64 b, .int .i64 c])] w (RetH m xs k w)) (w : World) (hid : FtT w) :
    Calls Tryd.prog 3 #[(.agg #[.int .i64 a, .int .i64 b, .int .i64 c])] w fun e w' => e = .returned (.bool true) ∧ Below w.heap.size w w' := by
  have HS := Lib.hid hs
  have HI := Lib.hid hi
  clear hs hi
  go_enter Tryd.func3, Tryd.ntmps3
  go_wp2_with fail
  refine (toTriple_any _ _ _ _).mono ?_
  rintro e w1 ⟨rfl, hb1⟩
  have Bw1_0 : Box w1 (w.heap.size) [.int .i64 a, .int .i64 b, .int .i64 c] := by refine Box.below ?_ hb1; repeat (first | with_reducible assumption | with_reducible exact Box.new _ _ _ | (with_reducible refine Box.newAt ?_ _ _; (simp; done)) | with_reducible apply Box.alloc | with_reducible apply Box.drewN | with_reducible apply Box.drew)
  obtain ⟨_, _, _, _, _, _, _⟩ := Bw1_0.three
  go_wp2_with fail
  refine (HS.out _).mono ?_
  rintro e w2 ⟨v0, rfl, s0, hb2⟩
  have Bw2_0 : Box w2 (w.heap.size) [.int .i64 a, .int .i64 b, .int .i64 c] := by refine Box.below ?_ hb2; repeat (first | with_reducible assumption | with_reducible exact Box.new _ _ _ | (with_reducible refine Box.newAt ?_ _ _; (simp; done)) | with_reducible apply Box.alloc | with_reducible apply Box.drewN | with_reducible apply Box.drew)
  obtain ⟨_, _, _, _, _, _, _⟩ := Bw2_0.three
  go_wp2_with fail
  refine (toTriple_any _ _ _ _).mono ?_
  rintro e w3 ⟨rfl, hb3⟩
  have Bw3_0 : Box w3 (w.heap.size) [.int .i64 a, .int .i64 b, .int .i64 c] := by refine Box.below ?_ hb3; repeat (first | with_reducible assumption | with_reducible exact Box.new _ _ _ | (with_reducible refine Box.newAt ?_ _ _; (simp; done)) | with_reducible apply Box.alloc | with_reducible apply Box.drewN | with_reducible apply Box.drew)
  obtain ⟨_, _, _, _, _, _, _⟩ := Bw3_0.three
  have T3 : Below w.heap.size w w3 := by repeat (first | with_reducible exact own_refl _ | with_reducible assumption | with_reducible apply own_alloc | with_reducible apply own_drewN | with_reducible apply own_drew | ((with_reducible refine own_setCell ?_ ?_ _); rotate_left; focus (first | (simp; done) | (simp; omega))) | (with_reducible (refine own_trans ?_ (by assumption))))
  have s0 := s0.own hb3
  go_wp2_with fail
  refine (HI.out _ (Rd.below hid T3)).mono ?_
  rintro e w4 ⟨v1, rfl, s1, hb4⟩
  have Bw4_0 : Box w4 (w.heap.size) [.int .i64 a, .int .i64 b, .int .i64 c] := by refine Box.below ?_ hb4; repeat (first | with_reducible assumption | with_reducible exact Box.new _ _ _ | (with_reducible refine Box.newAt ?_ _ _; (simp; done)) | with_reducible apply Box.alloc | with_reducible apply Box.drewN | with_reducible apply Box.drew)
  obtain ⟨_, _, _, _, _, _, _⟩ := Bw4_0.three
  have s0 := s0.own hb4
  go_wp2_with fail
  refine (eqHS_same _ _ m xs _ _ _ _ _ (by omega) s1 s0).mono ?_
  rintro e w5 ⟨rfl, hb5⟩
  have Bw5_0 : Box w5 (w.heap.size) [.int .i64 a, .int .i64 b, .int .i64 c] := by refine Box.below ?_ hb5; repeat (first | with_reducible assumption | with_reducible exact Box.new _ _ _ | (with_reducible refine Box.newAt ?_ _ _; (simp; done)) | with_reducible apply Box.alloc | with_reducible apply Box.drewN | with_reducible apply Box.drew)
  obtain ⟨_, _, _, _, _, _, _⟩ := Bw5_0.three
  have s0 := s0.own hb5
  have s1 := s1.own hb5
  have z2 := hb2.size
  have z3 := hb3.size
  have z4 := hb4.size
  have z5 := hb5.size
  try simp only [World.size_alloc] at z2 z3 z4 z5
  have z1 := hb1.size
  simp only [World.size_alloc] at z1
  go_wp2_with fail
  refine (markHS_any _ m xs 1 _ _ _ (by omega) (by omega) (by omega) s1).mono ?_
  rintro e w6 ⟨rfl, s1, hb6⟩
  have s0 := s0.below (hb6.mono (by omega))
  have z6 := hb6.size
  have Bw6_0 : Box w6 w.heap.size [.int .i64 a, .int .i64 b, .int .i64 c] := Bw5_0.low hb6 (by omega)
  obtain ⟨_, _, _, _, _, _, _⟩ := Bw6_0.three
  go_wp2_with fail
  refine (heldHS_ramp _ 1 m _ _ _ (by omega) (by omega) (by omega) s1).mono ?_
  rintro e w7 ⟨rfl, rfl⟩
  go_wp2_with fail
  refine (toTriple_any _ _ _ _).mono ?_
  rintro e w8 ⟨rfl, hb8⟩
  have s0 := s0.own hb8
  have s1 := s1.own hb8
  have t5 : Below w.heap.size w w5 := by repeat (first | with_reducible exact own_refl _ | with_reducible assumption | with_reducible apply own_alloc | with_reducible apply own_drewN | with_reducible apply own_drew | ((with_reducible refine own_setCell ?_ ?_ _); rotate_left; focus (first | (simp; done) | (simp; omega))) | (with_reducible (refine own_trans ?_ (by assumption))))
  have t8 := (t5.trans (hb6.mono (by omega))).trans (hb8.mono (by omega))
  go_wp2_with fail
  refine (HI.out _ (Rd.below hid t8)).mono ?_
  rintro e w9 ⟨v2, rfl, s2, hb9⟩
  have s0 := s0.own hb9
  have s1 := s1.own hb9
  go_wp2_with fail
  refine (eqHS_same _ _ m xs _ _ _ _ _ (by omega) s2 s0).mono ?_
  rintro e w10 ⟨rfl, hb10⟩
  have s1 := s1.own hb10
  go_wp2_with fail
  refine (heldHS_ramp _ 1 m _ _ _ (by omega) (by omega) (by omega) s1).mono ?_
  rintro e w11 ⟨rfl, rfl⟩
  go_wp2
  go_ret
  exact ⟨rfl, (t8.trans (hb9.mono (by have := hb8.size; omega))).trans (hb10.mono (by have := hb8.size; have := hb9.size; omega))⟩
theorem lawDownPath_walk (a b c : Int) (_ : I64 a) (_ : I64 b) (_ : I64 c) (w : World) (hid : FtT w) :
    Calls Tryd.prog 3 #[(.agg #[.int .i64 a, .int .i64 b, .int .i64 c])] w fun e w' => e = .returned (.bool true) ∧ Below w.heap.size w w' := by
  rcases h : isT a b c with _ | _
  · exact lawDownPath_of a b c [] 1 0 (by omega) (fun w => specDn_no a b c h w) (fun w _ => implDn_no a b c h w) w hid
  · obtain ⟨n, l, hd, hn⟩ := Dn.ex c.toNat a b c h (Nat.le_refl _)
    have hc := (isT_of h).2.2.2.1
    exact lawDownPath_of a b c _ 0 (n + 1) (by omega) (fun w => specDn_yes a b c h n l hd (by omega) w) (fun w hid => implDn_yes a b c h n l hd (by omega) w hid) w hid
end Go.Proofs.YtkeadknbdihkmaaDoor
