/- The walk of the law FnExactReduceForm, where both sides answer alike. -/
import Derived.Test.YtfpgdbdgglbleaaDoorFm
import Derived.Test.YtfpgdbdgglbleaaDoorB
import Derived.Test.YtfpgdbdgglbleaaDoorPA
import Derived.Test.YtfpgdbdgglbleaaDoorMxS
namespace Go.Proofs.YtfpgdbdgglbleaaDoor
open Go.ChangeShapes Go.WideShapes Go.ChangeAt Go.RowKit

set_option maxHeartbeats 1000000 in
theorem lawReduceForm_of (a b c : Int) (r00 r01 r02 : Int) (r10 r11 r12 r13 : Int) (k : Int)
    (hs : ∀ w : World, Calls Tryd.prog 9 #[(.agg #[.int .i64 a, .int .i64 b, .int .i64 c])] w fun e w' => e = .returned (.tuple #[(.agg #[.int .i64 r00, .int .i64 r01, .int .i64 r02]), (.agg #[.int .i64 r10, .int .i64 r11, .int .i64 r12, .int .i64 r13]), (.int .i64 k)]) ∧ Below w.heap.size w w')
    (hi : ∀ w : World, Idn w → MxS w → Calls Tryd.prog 11 #[(.agg #[.int .i64 a, .int .i64 b, .int .i64 c])] w fun e w' => e = .returned (.tuple #[(.agg #[.int .i64 r00, .int .i64 r01, .int .i64 r02]), (.agg #[.int .i64 r10, .int .i64 r11, .int .i64 r12, .int .i64 r13]), (.int .i64 k)]) ∧ Below w.heap.size w w') (w : World) (hid0 : Idn w) (hid1 : MxS w) :
    Calls Tryd.prog 4 #[(.agg #[.int .i64 a, .int .i64 b, .int .i64 c])] w fun e w' => e = .returned (.bool true) ∧ Below w.heap.size w w' := by
  have HS := Lib.hid hs
  have HI := Lib.hid hi
  clear hs hi
  go_enter Tryd.func4, Tryd.ntmps4
  go_wp2_with fail
  refine (toForm_any _ _ _ _).mono ?_
  rintro e w1 ⟨rfl, hb1⟩
  have Bw1_0 : Box w1 (w.heap.size) [.int .i64 a, .int .i64 b, .int .i64 c] := by refine Box.below ?_ hb1; repeat (first | with_reducible assumption | with_reducible exact Box.new _ _ _ | (with_reducible refine Box.newAt ?_ _ _; (simp; done)) | with_reducible apply Box.alloc | with_reducible apply Box.drewN | with_reducible apply Box.drew)
  obtain ⟨_, _, _, _, _, _, _⟩ := Bw1_0.three
  go_wp2_with fail
  refine (HS.out _).mono ?_
  rintro e w2 ⟨rfl, hb2⟩
  have Bw2_0 : Box w2 (w.heap.size) [.int .i64 a, .int .i64 b, .int .i64 c] := by refine Box.below ?_ hb2; repeat (first | with_reducible assumption | with_reducible exact Box.new _ _ _ | (with_reducible refine Box.newAt ?_ _ _; (simp; done)) | with_reducible apply Box.alloc | with_reducible apply Box.drewN | with_reducible apply Box.drew)
  obtain ⟨_, _, _, _, _, _, _⟩ := Bw2_0.three
  go_wp2_with fail
  refine (toForm_any _ _ _ _).mono ?_
  rintro e w3 ⟨rfl, hb3⟩
  have Bw3_0 : Box w3 (w2.heap.size) [.int .i64 r00, .int .i64 r01, .int .i64 r02] := by refine Box.below ?_ hb3; repeat (first | with_reducible assumption | with_reducible exact Box.new _ _ _ | (with_reducible refine Box.newAt ?_ _ _; (simp; done)) | with_reducible apply Box.alloc | with_reducible apply Box.drewN | with_reducible apply Box.drew)
  obtain ⟨_, _, _, _, _, _, _⟩ := Bw3_0.three
  have Bw3_1 : Box w3 (w2.heap.size + 1) [.int .i64 r10, .int .i64 r11, .int .i64 r12, .int .i64 r13] := by refine Box.below ?_ hb3; repeat (first | with_reducible assumption | with_reducible exact Box.new _ _ _ | (with_reducible refine Box.newAt ?_ _ _; (simp; done)) | with_reducible apply Box.alloc | with_reducible apply Box.drewN | with_reducible apply Box.drew)
  obtain ⟨_, _, _, _, _, _, _, _, _⟩ := Bw3_1.four
  have T3 : Below w.heap.size w w3 := by repeat (first | with_reducible exact own_refl _ | with_reducible assumption | with_reducible apply own_alloc | with_reducible apply own_drewN | with_reducible apply own_drew | ((with_reducible refine own_setCell ?_ ?_ _); rotate_left; focus (first | (simp; done) | (simp; omega))) | (with_reducible (refine own_trans ?_ (by assumption))))
  have IX0 : Idn w3 := Rd.below hid0 T3
  have IX1 : MxS w3 := Rd.below hid1 T3
  go_wp2_with fail
  refine (HI.out _ IX0 IX1).mono ?_
  rintro e w4 ⟨rfl, hb4⟩
  have Bw4_0 : Box w4 (w2.heap.size) [.int .i64 r00, .int .i64 r01, .int .i64 r02] := by refine Box.below ?_ hb4; repeat (first | with_reducible assumption | with_reducible exact Box.new _ _ _ | (with_reducible refine Box.newAt ?_ _ _; (simp; done)) | with_reducible apply Box.alloc | with_reducible apply Box.drewN | with_reducible apply Box.drew)
  obtain ⟨_, _, _, _, _, _, _⟩ := Bw4_0.three
  have Bw4_1 : Box w4 (w2.heap.size + 1) [.int .i64 r10, .int .i64 r11, .int .i64 r12, .int .i64 r13] := by refine Box.below ?_ hb4; repeat (first | with_reducible assumption | with_reducible exact Box.new _ _ _ | (with_reducible refine Box.newAt ?_ _ _; (simp; done)) | with_reducible apply Box.alloc | with_reducible apply Box.drewN | with_reducible apply Box.drew)
  obtain ⟨_, _, _, _, _, _, _, _, _⟩ := Bw4_1.four
  go_wp2_with fail
  refine (eqForm_same _ _ _ _).mono ?_
  rintro e w5 ⟨rfl, hb5⟩
  have Bw5_0 : Box w5 (w2.heap.size) [.int .i64 r00, .int .i64 r01, .int .i64 r02] := by refine Box.below ?_ hb5; repeat (first | with_reducible assumption | with_reducible exact Box.new _ _ _ | (with_reducible refine Box.newAt ?_ _ _; (simp; done)) | with_reducible apply Box.alloc | with_reducible apply Box.drewN | with_reducible apply Box.drew)
  obtain ⟨_, _, _, _, _, _, _⟩ := Bw5_0.three
  have Bw5_1 : Box w5 (w2.heap.size + 1) [.int .i64 r10, .int .i64 r11, .int .i64 r12, .int .i64 r13] := by refine Box.below ?_ hb5; repeat (first | with_reducible assumption | with_reducible exact Box.new _ _ _ | (with_reducible refine Box.newAt ?_ _ _; (simp; done)) | with_reducible apply Box.alloc | with_reducible apply Box.drewN | with_reducible apply Box.drew)
  obtain ⟨_, _, _, _, _, _, _, _, _⟩ := Bw5_1.four
  have Bw5_2 : Box w5 (w4.heap.size) [.int .i64 r00, .int .i64 r01, .int .i64 r02] := by refine Box.below ?_ hb5; repeat (first | with_reducible assumption | with_reducible exact Box.new _ _ _ | (with_reducible refine Box.newAt ?_ _ _; (simp; done)) | with_reducible apply Box.alloc | with_reducible apply Box.drewN | with_reducible apply Box.drew)
  obtain ⟨_, _, _, _, _, _, _⟩ := Bw5_2.three
  have Bw5_3 : Box w5 (w4.heap.size + 1) [.int .i64 r10, .int .i64 r11, .int .i64 r12, .int .i64 r13] := by refine Box.below ?_ hb5; repeat (first | with_reducible assumption | with_reducible exact Box.new _ _ _ | (with_reducible refine Box.newAt ?_ _ _; (simp; done)) | with_reducible apply Box.alloc | with_reducible apply Box.drewN | with_reducible apply Box.drew)
  obtain ⟨_, _, _, _, _, _, _, _, _⟩ := Bw5_3.four
  go_wp2_with fail
  refine (eqMatrix_same _ _ _ _ _).mono ?_
  rintro e w6 ⟨rfl, hb6⟩
  go_wp2
  go_ret
  exact ⟨rfl, by repeat (first | with_reducible exact own_refl _ | with_reducible assumption | with_reducible apply own_alloc | with_reducible apply own_drewN | with_reducible apply own_drew | ((with_reducible refine own_setCell ?_ ?_ _); rotate_left; focus (first | (simp; done) | (simp; omega))) | (with_reducible (refine own_trans ?_ (by assumption))))⟩
end Go.Proofs.YtfpgdbdgglbleaaDoor
