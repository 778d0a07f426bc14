/- The walk of the law FnExactFirstConjugator, where both sides answer alike. -/
import Derived.Test.YtmlbbhhjjepmkaaB
namespace Go.Proofs.Ytmlbbhhjjepmkaa
open Go.ChangeShapes Go.WideShapes Go.ChangeAt Go.RowKit

set_option maxHeartbeats 4000000 in
theorem lawFirstConjugator_of (a0 b0 c0 d0 a1 b1 c1 d1 n r0 r1 r2 r3 k : Int)
    (hs : ∀ w : World, Calls Try.prog 7 #[(.agg #[.int .i64 a0, .int .i64 b0, .int .i64 c0, .int .i64 d0]), (.agg #[.int .i64 a1, .int .i64 b1, .int .i64 c1, .int .i64 d1]), (.int .i64 n)] w fun e w' => e = .returned (.tuple #[(.agg #[.int .i64 r0, .int .i64 r1, .int .i64 r2, .int .i64 r3]), (.int .i64 k)]) ∧ Below w.heap.size w w')
    (hi : ∀ w : World, Calls Try.prog 9 #[(.agg #[.int .i64 a0, .int .i64 b0, .int .i64 c0, .int .i64 d0]), (.agg #[.int .i64 a1, .int .i64 b1, .int .i64 c1, .int .i64 d1]), (.int .i64 n)] w fun e w' => e = .returned (.tuple #[(.agg #[.int .i64 r0, .int .i64 r1, .int .i64 r2, .int .i64 r3]), (.int .i64 k)]) ∧ Below w.heap.size w w') (w : World) :
    Calls Try.prog 4 #[(.agg #[.int .i64 a0, .int .i64 b0, .int .i64 c0, .int .i64 d0]), (.agg #[.int .i64 a1, .int .i64 b1, .int .i64 c1, .int .i64 d1]), (.int .i64 n)] w fun e w' => e = .returned (.bool true) ∧ Below w.heap.size w w' := by
  have HS := Lib.hid hs
  have HI := Lib.hid hi
  clear hs hi
  go_enter Try.func4, Try.ntmps4
  go_upto_region 1 with fail
  have T : Below w.heap.size w ((w.alloc (.cells #[.int .i64 a0, .int .i64 b0, .int .i64 c0, .int .i64 d0] 25)).alloc (.cells #[.int .i64 a1, .int .i64 b1, .int .i64 c1, .int .i64 d1] 25)) := own_alloc (own_alloc (own_refl _) _) _
  have BA : Box ((w.alloc (.cells #[.int .i64 a0, .int .i64 b0, .int .i64 c0, .int .i64 d0] 25)).alloc (.cells #[.int .i64 a1, .int .i64 b1, .int .i64 c1, .int .i64 d1] 25)) (w.heap.size) [.int .i64 a0, .int .i64 b0, .int .i64 c0, .int .i64 d0] := Box.alloc (Box.new _ _ _) _
  have BB : Box ((w.alloc (.cells #[.int .i64 a0, .int .i64 b0, .int .i64 c0, .int .i64 d0] 25)).alloc (.cells #[.int .i64 a1, .int .i64 b1, .int .i64 c1, .int .i64 d1] 25)) (w.heap.size + 1) [.int .i64 a1, .int .i64 b1, .int .i64 c1, .int .i64 d1] := Box.newAt (by simp) _ _
  have n0 : ¬ (w.heap.size + 1 + 1 = w.heap.size) := by omega
  go_cut [7, 8] (fun s7 s8 wx => ∃ g : Nat, s7 = .pointer (some ⟨g, 0, none⟩) ∧ s8 = (.int .i64 k) ∧ Below w.heap.size w wx ∧ Box wx (w.heap.size) [.int .i64 a0, .int .i64 b0, .int .i64 c0, .int .i64 d0] ∧ Box wx (w.heap.size + 1) [.int .i64 a1, .int .i64 b1, .int .i64 c1, .int .i64 d1] ∧ Box wx g [.int .i64 r0, .int .i64 r1, .int .i64 r2, .int .i64 r3])
  case first =>
    go_region_held3 (fun w' => w'.cell? ⟨w.heap.size, 0, none⟩ = some (.int .i64 a0) ∧ w'.cell? ⟨w.heap.size, 1, none⟩ = some (.int .i64 b0) ∧ w'.cell? ⟨w.heap.size, 2, none⟩ = some (.int .i64 c0) ∧ w'.cell? ⟨w.heap.size, 3, none⟩ = some (.int .i64 d0) ∧ w'.cell? ⟨w.heap.size + 1, 0, none⟩ = some (.int .i64 a1) ∧ w'.cell? ⟨w.heap.size + 1, 1, none⟩ = some (.int .i64 b1) ∧ w'.cell? ⟨w.heap.size + 1, 2, none⟩ = some (.int .i64 c1) ∧ w'.cell? ⟨w.heap.size + 1, 3, none⟩ = some (.int .i64 d1)) (go_keep)
      (first
        | (go_at_call 8; refine (toMatrix_any _ _ _ _ _).mono ?_; rintro e w1 ⟨rfl, hb1⟩; have T := (by first | exact own_trans T hb1 | exact own_trans (own_drew T) hb1 | exact own_trans (own_drew (own_alloc T _)) hb1 | exact own_trans (own_alloc T _) hb1 : Below w.heap.size w w1); have BA := Box.below (by first | exact BA | exact Box.drew BA | exact Box.drew (Box.alloc BA _) | exact Box.alloc BA _) hb1; obtain ⟨_, _, _, _, _, _, _, _, _⟩ := BA.four; have BB := Box.below (by first | exact BB | exact Box.drew BB | exact Box.drew (Box.alloc BB _) | exact Box.alloc BB _) hb1; obtain ⟨_, _, _, _, _, _, _, _, _⟩ := BB.four; have n1 : ¬ (w1.heap.size = w.heap.size) := Nat.ne_of_gt BA.1; have n2 : ¬ (w1.heap.size = w.heap.size + 1) := Nat.ne_of_gt BB.1; first | (have Z := Box.below (by first | exact Z | exact Box.drew Z | exact Box.drew (Box.alloc Z _) | exact Box.alloc Z _) hb1; obtain ⟨_, _, _, _, _, _, _, _, _⟩ := Z.four) | (have Z : Box w1 (w.heap.size + 1 + 1) [.int .i64 0, .int .i64 0, .int .i64 0, .int .i64 0] := Box.below (by first | exact Box.newAt (by simp) _ _ | exact Box.drew (Box.newAt (by simp) _ _)) hb1; obtain ⟨_, _, _, _, _, _, _, _, _⟩ := Z.four) | (have Z : Box w1 _ [.int .i64 0, .int .i64 0, .int .i64 0, .int .i64 0] := Box.below (by first | exact Box.new _ _ _ | exact Box.drew (Box.new _ _ _)) hb1; obtain ⟨_, _, _, _, _, _, _, _, _⟩ := Z.four) | skip)
        | (go_at_call 7; refine (HS.out _).mono ?_; rintro e w1 ⟨rfl, hb1⟩; have T := (by first | exact own_trans T hb1 | exact own_trans (own_drew T) hb1 | exact own_trans (own_drew (own_alloc T _)) hb1 | exact own_trans (own_alloc T _) hb1 : Below w.heap.size w w1); have BA := Box.below (by first | exact BA | exact Box.drew BA | exact Box.drew (Box.alloc BA _) | exact Box.alloc BA _) hb1; obtain ⟨_, _, _, _, _, _, _, _, _⟩ := BA.four; have BB := Box.below (by first | exact BB | exact Box.drew BB | exact Box.drew (Box.alloc BB _) | exact Box.alloc BB _) hb1; obtain ⟨_, _, _, _, _, _, _, _, _⟩ := BB.four; have n1 : ¬ (w1.heap.size = w.heap.size) := Nat.ne_of_gt BA.1; have n2 : ¬ (w1.heap.size = w.heap.size + 1) := Nat.ne_of_gt BB.1; first | (have Z := Box.below (by first | exact Z | exact Box.drew Z | exact Box.drew (Box.alloc Z _) | exact Box.alloc Z _) hb1; obtain ⟨_, _, _, _, _, _, _, _, _⟩ := Z.four) | (have Z : Box w1 (w.heap.size + 1 + 1) [.int .i64 0, .int .i64 0, .int .i64 0, .int .i64 0] := Box.below (by first | exact Box.newAt (by simp) _ _ | exact Box.drew (Box.newAt (by simp) _ _)) hb1; obtain ⟨_, _, _, _, _, _, _, _, _⟩ := Z.four) | (have Z : Box w1 _ [.int .i64 0, .int .i64 0, .int .i64 0, .int .i64 0] := Box.below (by first | exact Box.new _ _ _ | exact Box.drew (Box.new _ _ _)) hb1; obtain ⟨_, _, _, _, _, _, _, _, _⟩ := Z.four) | skip))
    all_goals
      go_wp2_with fail
      go_meet
      first
        | exact ⟨_, rfl, rfl, own_alloc T _, BA.alloc _, BB.alloc _, Box.new _ _ _⟩
        | exact ⟨_, rfl, rfl, by repeat (first | with_reducible exact own_refl _ | with_reducible assumption | with_reducible apply own_alloc | with_reducible apply own_drewN | with_reducible apply own_drew | ((with_reducible refine own_setCell ?_ ?_ _); rotate_left; focus (first | (simp; done) | (simp; omega))) | (with_reducible (refine own_trans ?_ (by assumption)))), ((((BA.far (by dsimp only; omega) _).far (by dsimp only; omega) _).far (by dsimp only; omega) _).far (by dsimp only; omega) _), ((((BB.far (by dsimp only; omega) _).far (by dsimp only; omega) _).far (by dsimp only; omega) _).far (by dsimp only; omega) _), Z.put4 _ _ _ _⟩
  case rest =>
    obtain ⟨g, rfl, rfl, T, BA, BB, BG⟩ := hcut
    have hgc := BG.1
    have n3 : ¬ (wc.heap.size = g) := Nat.ne_of_gt BG.1
    obtain ⟨_, _, _, _, _, _, _, _, _⟩ := BA.four
    obtain ⟨_, _, _, _, _, _, _, _, _⟩ := BB.four
    have n1 : ¬ (wc.heap.size = w.heap.size) := Nat.ne_of_gt BA.1
    have n2 : ¬ (wc.heap.size = w.heap.size + 1) := Nat.ne_of_gt BB.1
    go_upto_region 2 with fail
    go_cut [9, 10] (fun s9 s10 wx => ∃ g' : Nat, s9 = .pointer (some ⟨g', 0, none⟩) ∧ s10 = (.int .i64 k) ∧ Below w.heap.size w wx ∧ Box wx g [.int .i64 r0, .int .i64 r1, .int .i64 r2, .int .i64 r3] ∧ Box wx g' [.int .i64 r0, .int .i64 r1, .int .i64 r2, .int .i64 r3])
    case first =>
      go_region_held3 (fun w' => w'.cell? ⟨w.heap.size, 0, none⟩ = some (.int .i64 a0) ∧ w'.cell? ⟨w.heap.size, 1, none⟩ = some (.int .i64 b0) ∧ w'.cell? ⟨w.heap.size, 2, none⟩ = some (.int .i64 c0) ∧ w'.cell? ⟨w.heap.size, 3, none⟩ = some (.int .i64 d0) ∧ w'.cell? ⟨w.heap.size + 1, 0, none⟩ = some (.int .i64 a1) ∧ w'.cell? ⟨w.heap.size + 1, 1, none⟩ = some (.int .i64 b1) ∧ w'.cell? ⟨w.heap.size + 1, 2, none⟩ = some (.int .i64 c1) ∧ w'.cell? ⟨w.heap.size + 1, 3, none⟩ = some (.int .i64 d1)) (go_keep)
        (first
          | (go_at_call 8; refine (toMatrix_any _ _ _ _ _).mono ?_; rintro e w1 ⟨rfl, hb1⟩; have T := (by first | exact own_trans T hb1 | exact own_trans (own_drew T) hb1 | exact own_trans (own_drew (own_alloc T _)) hb1 | exact own_trans (own_alloc T _) hb1 : Below w.heap.size w w1); have BA := Box.below (by first | exact BA | exact Box.drew BA | exact Box.drew (Box.alloc BA _) | exact Box.alloc BA _) hb1; obtain ⟨_, _, _, _, _, _, _, _, _⟩ := BA.four; have BB := Box.below (by first | exact BB | exact Box.drew BB | exact Box.drew (Box.alloc BB _) | exact Box.alloc BB _) hb1; obtain ⟨_, _, _, _, _, _, _, _, _⟩ := BB.four; have n1 : ¬ (w1.heap.size = w.heap.size) := Nat.ne_of_gt BA.1; have n2 : ¬ (w1.heap.size = w.heap.size + 1) := Nat.ne_of_gt BB.1; have BG := Box.below (by first | exact BG | exact Box.drew BG | exact Box.drew (Box.alloc BG _) | exact Box.alloc BG _) hb1; have bg1 := BG.1; have n3 : ¬ (w1.heap.size = g) := Nat.ne_of_gt BG.1; first | (have Z := Box.below (by first | exact Z | exact Box.drew Z | exact Box.drew (Box.alloc Z _) | exact Box.alloc Z _) hb1; obtain ⟨_, _, _, _, _, _, _, _, _⟩ := Z.four) | (have Z : Box w1 (w.heap.size + 1 + 1) [.int .i64 0, .int .i64 0, .int .i64 0, .int .i64 0] := Box.below (by first | exact Box.newAt (by simp) _ _ | exact Box.drew (Box.newAt (by simp) _ _)) hb1; obtain ⟨_, _, _, _, _, _, _, _, _⟩ := Z.four) | (have Z : Box w1 _ [.int .i64 0, .int .i64 0, .int .i64 0, .int .i64 0] := Box.below (by first | exact Box.new _ _ _ | exact Box.drew (Box.new _ _ _)) hb1; obtain ⟨_, _, _, _, _, _, _, _, _⟩ := Z.four) | skip)
          | (go_at_call 9; refine (HI.out _).mono ?_; rintro e w1 ⟨rfl, hb1⟩; have T := (by first | exact own_trans T hb1 | exact own_trans (own_drew T) hb1 | exact own_trans (own_drew (own_alloc T _)) hb1 | exact own_trans (own_alloc T _) hb1 : Below w.heap.size w w1); have BA := Box.below (by first | exact BA | exact Box.drew BA | exact Box.drew (Box.alloc BA _) | exact Box.alloc BA _) hb1; obtain ⟨_, _, _, _, _, _, _, _, _⟩ := BA.four; have BB := Box.below (by first | exact BB | exact Box.drew BB | exact Box.drew (Box.alloc BB _) | exact Box.alloc BB _) hb1; obtain ⟨_, _, _, _, _, _, _, _, _⟩ := BB.four; have n1 : ¬ (w1.heap.size = w.heap.size) := Nat.ne_of_gt BA.1; have n2 : ¬ (w1.heap.size = w.heap.size + 1) := Nat.ne_of_gt BB.1; have BG := Box.below (by first | exact BG | exact Box.drew BG | exact Box.drew (Box.alloc BG _) | exact Box.alloc BG _) hb1; have bg1 := BG.1; have n3 : ¬ (w1.heap.size = g) := Nat.ne_of_gt BG.1; first | (have Z := Box.below (by first | exact Z | exact Box.drew Z | exact Box.drew (Box.alloc Z _) | exact Box.alloc Z _) hb1; obtain ⟨_, _, _, _, _, _, _, _, _⟩ := Z.four) | (have Z : Box w1 (w.heap.size + 1 + 1) [.int .i64 0, .int .i64 0, .int .i64 0, .int .i64 0] := Box.below (by first | exact Box.newAt (by simp) _ _ | exact Box.drew (Box.newAt (by simp) _ _)) hb1; obtain ⟨_, _, _, _, _, _, _, _, _⟩ := Z.four) | (have Z : Box w1 _ [.int .i64 0, .int .i64 0, .int .i64 0, .int .i64 0] := Box.below (by first | exact Box.new _ _ _ | exact Box.drew (Box.new _ _ _)) hb1; obtain ⟨_, _, _, _, _, _, _, _, _⟩ := Z.four) | skip))
      all_goals
        go_wp2_with fail
        go_meet
        first
          | exact ⟨_, rfl, rfl, own_alloc T _, BG.alloc _, Box.new _ _ _⟩
          | exact ⟨_, rfl, rfl, by repeat (first | with_reducible exact own_refl _ | with_reducible assumption | with_reducible apply own_alloc | with_reducible apply own_drewN | with_reducible apply own_drew | ((with_reducible refine own_setCell ?_ ?_ _); rotate_left; focus (first | (simp; done) | (simp; omega))) | (with_reducible (refine own_trans ?_ (by assumption)))), ((((BG.far (by dsimp only; omega) _).far (by dsimp only; omega) _).far (by dsimp only; omega) _).far (by dsimp only; omega) _), Z.put4 _ _ _ _⟩
    case rest =>
      obtain ⟨g', rfl, rfl, T, BG, BH⟩ := hcut
      obtain ⟨_, _, _, _, _, _, _, _, _⟩ := BG.four
      obtain ⟨_, _, _, _, _, _, _, _, _⟩ := BH.four
      go_wp2_with fail
      refine (eqMatrix_same _ _ _ _ _).mono ?_
      rintro e w5 ⟨rfl, hb5⟩
      go_wp2
      go_ret
      exact ⟨rfl, own_trans T hb5⟩
end Go.Proofs.Ytmlbbhhjjepmkaa
