/- The walk of the law FnExactCommutatorTrace, where both sides answer alike. -/
import Derived.Test.YtkeadknbdihkmaaTo
import Derived.Test.YtkeadknbdihkmaaCtr
namespace Go.Proofs.Ytkeadknbdihkmaa
open Go.ChangeShapes Go.WideShapes Go.ChangeAt Go.RowKit

set_option maxHeartbeats 4000000 in
theorem lawCommutatorTrace_of (a0 b0 c0 d0 a1 b1 c1 d1 r0 k : Int)
    (hs : ∀ w : World, Calls Try.prog 13 #[(.agg #[.int .i64 a0, .int .i64 b0, .int .i64 c0, .int .i64 d0]), (.agg #[.int .i64 a1, .int .i64 b1, .int .i64 c1, .int .i64 d1])] w fun e w' => e = .returned (.tuple #[(.int .i64 r0), (.int .i64 k)]) ∧ Below w.heap.size w w')
    (hi : ∀ w : World, Calls Try.prog 15 #[(.agg #[.int .i64 a0, .int .i64 b0, .int .i64 c0, .int .i64 d0]), (.agg #[.int .i64 a1, .int .i64 b1, .int .i64 c1, .int .i64 d1])] w fun e w' => e = .returned (.tuple #[(.int .i64 r0), (.int .i64 k)]) ∧ Below w.heap.size w w') (w : World) :
    Calls Try.prog 5 #[(.agg #[.int .i64 a0, .int .i64 b0, .int .i64 c0, .int .i64 d0]), (.agg #[.int .i64 a1, .int .i64 b1, .int .i64 c1, .int .i64 d1])] w fun e w' => e = .returned (.bool true) ∧ Below w.heap.size w w' := by
  have HS := Lib.hid hs
  have HI := Lib.hid hi
  clear hs hi
  go_enter Try.func5, Try.ntmps5
  go_upto_region 1 with fail
  have T : Below w.heap.size w ((w.alloc (.cells #[.int .i64 a0, .int .i64 b0, .int .i64 c0, .int .i64 d0] 31)).alloc (.cells #[.int .i64 a1, .int .i64 b1, .int .i64 c1, .int .i64 d1] 31)) := own_alloc (own_alloc (own_refl _) _) _
  have BA : Box ((w.alloc (.cells #[.int .i64 a0, .int .i64 b0, .int .i64 c0, .int .i64 d0] 31)).alloc (.cells #[.int .i64 a1, .int .i64 b1, .int .i64 c1, .int .i64 d1] 31)) (w.heap.size) [.int .i64 a0, .int .i64 b0, .int .i64 c0, .int .i64 d0] := Box.alloc (Box.new _ _ _) _
  have BB : Box ((w.alloc (.cells #[.int .i64 a0, .int .i64 b0, .int .i64 c0, .int .i64 d0] 31)).alloc (.cells #[.int .i64 a1, .int .i64 b1, .int .i64 c1, .int .i64 d1] 31)) (w.heap.size + 1) [.int .i64 a1, .int .i64 b1, .int .i64 c1, .int .i64 d1] := Box.newAt (by simp) _ _
  have n0 : ¬ (w.heap.size + 1 + 1 = w.heap.size) := by omega
  go_cut [5, 6] (fun s5 s6 wx => s5 = (.int .i64 r0) ∧ s6 = (.int .i64 k) ∧ Below w.heap.size w wx ∧ Box wx (w.heap.size) [.int .i64 a0, .int .i64 b0, .int .i64 c0, .int .i64 d0] ∧ Box wx (w.heap.size + 1) [.int .i64 a1, .int .i64 b1, .int .i64 c1, .int .i64 d1])
  case first =>
    go_region_held3 (fun w' => w'.cell? ⟨w.heap.size, 0, none⟩ = some (.int .i64 a0) ∧ w'.cell? ⟨w.heap.size, 1, none⟩ = some (.int .i64 b0) ∧ w'.cell? ⟨w.heap.size, 2, none⟩ = some (.int .i64 c0) ∧ w'.cell? ⟨w.heap.size, 3, none⟩ = some (.int .i64 d0) ∧ w'.cell? ⟨w.heap.size + 1, 0, none⟩ = some (.int .i64 a1) ∧ w'.cell? ⟨w.heap.size + 1, 1, none⟩ = some (.int .i64 b1) ∧ w'.cell? ⟨w.heap.size + 1, 2, none⟩ = some (.int .i64 c1) ∧ w'.cell? ⟨w.heap.size + 1, 3, none⟩ = some (.int .i64 d1)) (go_keep)
      (first
        | (go_at_call 14; refine (toMatrix_any _ _ _ _ _).mono ?_; rintro e w1 ⟨rfl, hb1⟩; have T := (by first | exact own_trans T hb1 | exact own_trans (own_drew T) hb1 | exact own_trans (own_drew (own_alloc T _)) hb1 | exact own_trans (own_alloc T _) hb1 : Below w.heap.size w w1); have BA := Box.below (by first | exact BA | exact Box.drew BA | exact Box.drew (Box.alloc BA _) | exact Box.alloc BA _) hb1; obtain ⟨_, _, _, _, _, _, _, _, _⟩ := BA.four; have BB := Box.below (by first | exact BB | exact Box.drew BB | exact Box.drew (Box.alloc BB _) | exact Box.alloc BB _) hb1; obtain ⟨_, _, _, _, _, _, _, _, _⟩ := BB.four; have n1 : ¬ (w1.heap.size = w.heap.size) := Nat.ne_of_gt BA.1; have n2 : ¬ (w1.heap.size = w.heap.size + 1) := Nat.ne_of_gt BB.1)
        | (go_at_call 13; refine (HS.out _).mono ?_; rintro e w1 ⟨rfl, hb1⟩; have T := (by first | exact own_trans T hb1 | exact own_trans (own_drew T) hb1 | exact own_trans (own_drew (own_alloc T _)) hb1 | exact own_trans (own_alloc T _) hb1 : Below w.heap.size w w1); have BA := Box.below (by first | exact BA | exact Box.drew BA | exact Box.drew (Box.alloc BA _) | exact Box.alloc BA _) hb1; obtain ⟨_, _, _, _, _, _, _, _, _⟩ := BA.four; have BB := Box.below (by first | exact BB | exact Box.drew BB | exact Box.drew (Box.alloc BB _) | exact Box.alloc BB _) hb1; obtain ⟨_, _, _, _, _, _, _, _, _⟩ := BB.four; have n1 : ¬ (w1.heap.size = w.heap.size) := Nat.ne_of_gt BA.1; have n2 : ¬ (w1.heap.size = w.heap.size + 1) := Nat.ne_of_gt BB.1))
    all_goals
      go_wp2_with fail
      go_meet
      exact ⟨rfl, rfl, T, BA, BB⟩
  case rest =>
    obtain ⟨rfl, rfl, T, BA, BB⟩ := hcut
    obtain ⟨_, _, _, _, _, _, _, _, _⟩ := BA.four
    obtain ⟨_, _, _, _, _, _, _, _, _⟩ := BB.four
    have n1 : ¬ (wc.heap.size = w.heap.size) := Nat.ne_of_gt BA.1
    have n2 : ¬ (wc.heap.size = w.heap.size + 1) := Nat.ne_of_gt BB.1
    go_upto_region 2 with fail
    go_cut [7, 8] (fun s7 s8 wx => s7 = (.int .i64 r0) ∧ s8 = (.int .i64 k) ∧ Below w.heap.size w wx)
    case first =>
      go_region_held3 (fun w' => w'.cell? ⟨w.heap.size, 0, none⟩ = some (.int .i64 a0) ∧ w'.cell? ⟨w.heap.size, 1, none⟩ = some (.int .i64 b0) ∧ w'.cell? ⟨w.heap.size, 2, none⟩ = some (.int .i64 c0) ∧ w'.cell? ⟨w.heap.size, 3, none⟩ = some (.int .i64 d0) ∧ w'.cell? ⟨w.heap.size + 1, 0, none⟩ = some (.int .i64 a1) ∧ w'.cell? ⟨w.heap.size + 1, 1, none⟩ = some (.int .i64 b1) ∧ w'.cell? ⟨w.heap.size + 1, 2, none⟩ = some (.int .i64 c1) ∧ w'.cell? ⟨w.heap.size + 1, 3, none⟩ = some (.int .i64 d1)) (go_keep)
        (first
          | (go_at_call 14; refine (toMatrix_any _ _ _ _ _).mono ?_; rintro e w1 ⟨rfl, hb1⟩; have T := (by first | exact own_trans T hb1 | exact own_trans (own_drew T) hb1 | exact own_trans (own_drew (own_alloc T _)) hb1 | exact own_trans (own_alloc T _) hb1 : Below w.heap.size w w1); have BA := Box.below (by first | exact BA | exact Box.drew BA | exact Box.drew (Box.alloc BA _) | exact Box.alloc BA _) hb1; obtain ⟨_, _, _, _, _, _, _, _, _⟩ := BA.four; have BB := Box.below (by first | exact BB | exact Box.drew BB | exact Box.drew (Box.alloc BB _) | exact Box.alloc BB _) hb1; obtain ⟨_, _, _, _, _, _, _, _, _⟩ := BB.four; have n1 : ¬ (w1.heap.size = w.heap.size) := Nat.ne_of_gt BA.1; have n2 : ¬ (w1.heap.size = w.heap.size + 1) := Nat.ne_of_gt BB.1)
          | (go_at_call 15; refine (HI.out _).mono ?_; rintro e w1 ⟨rfl, hb1⟩; have T := (by first | exact own_trans T hb1 | exact own_trans (own_drew T) hb1 | exact own_trans (own_drew (own_alloc T _)) hb1 | exact own_trans (own_alloc T _) hb1 : Below w.heap.size w w1); have BA := Box.below (by first | exact BA | exact Box.drew BA | exact Box.drew (Box.alloc BA _) | exact Box.alloc BA _) hb1; obtain ⟨_, _, _, _, _, _, _, _, _⟩ := BA.four; have BB := Box.below (by first | exact BB | exact Box.drew BB | exact Box.drew (Box.alloc BB _) | exact Box.alloc BB _) hb1; obtain ⟨_, _, _, _, _, _, _, _, _⟩ := BB.four; have n1 : ¬ (w1.heap.size = w.heap.size) := Nat.ne_of_gt BA.1; have n2 : ¬ (w1.heap.size = w.heap.size + 1) := Nat.ne_of_gt BB.1))
      all_goals
        go_wp2_with fail
        go_meet
        exact ⟨rfl, rfl, T⟩
    case rest =>
      obtain ⟨rfl, rfl, T⟩ := hcut
      go_wp2
      go_ret
      exact ⟨rfl, T⟩
end Go.Proofs.Ytkeadknbdihkmaa
