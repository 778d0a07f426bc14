/- Contracts of the model's test for reduced forms. -/
import Derived.Test.YtfpgdbdgglbleaaDoorRdq
namespace Go.Proofs.YtfpgdbdgglbleaaDoor
open Go.ChangeShapes Go.WideShapes Go.ChangeAt Go.RowKit

set_option maxHeartbeats 2000000 in
theorem l05Red_D (t : Bool) (a b c : Int) (h1 : disc a b c < 0) (_ : 0 < a) (ht : redD a b c = t) (ha : FE a) (hb : FE b) (hc : FE c) (w : World) :
    Calls Tryd.prog 34 #[(.agg #[.int .i64 a, .int .i64 b, .int .i64 c])] w fun e w' => e = .returned (.bool t) ∧ Below w.heap.size w w' := by
  obtain ⟨d, hd⟩ : ∃ d, disc a b c = d := ⟨_, rfl⟩
  rw [hd] at h1
  have HD := Lib.hid (fun w => l05Disc_is d a b c hd ha hb hc w)
  have kb : -1000000 ≤ b ∧ b ≤ 1000000 := hb
  clear hd ha hb hc
  obtain ⟨n, hn⟩ : ∃ n : Int, n = (b.natAbs : Int) := ⟨_, rfl⟩
  have k0 := redD_cases a b c t ht
  rw [← hn] at k0
  have hm : (b ≤ n ∧ -b ≤ n) ∧ (n ≤ b ∨ n ≤ -b) := by omega
  clear hn ht
  rcases k0 with ⟨k1, rfl⟩ | ⟨k1, k2, rfl⟩ | ⟨k1, k2, k3, rfl⟩ | ⟨k1, k2, k3, k4, rfl⟩ | ⟨k1, k2, k3, k4, k5, rfl⟩ | ⟨k1, k2, k3, k4, rfl⟩
  all_goals
    go_enter Tryd.func34, Tryd.ntmps34
    go_upto_region 1 with fail
    have BF : Box (w.alloc (.cells #[.int .i64 a, .int .i64 b, .int .i64 c] 24)) w.heap.size [.int .i64 a, .int .i64 b, .int .i64 c] := Box.new _ _ _
    have T : Below w.heap.size w (w.alloc (.cells #[.int .i64 a, .int .i64 b, .int .i64 c] 24)) := own_alloc (own_refl _) _
    obtain ⟨_, _, _, _, _, _, _⟩ := BF.three
    go_region_held3 (fun w' => w'.cell? ⟨w.heap.size, 0, none⟩ = some (.int .i64 a) ∧ w'.cell? ⟨w.heap.size, 1, none⟩ = some (.int .i64 b) ∧ w'.cell? ⟨w.heap.size, 2, none⟩ = some (.int .i64 c)) (go_keep)
      (first
        | (go_at_call 33; refine (HD.out _).mono ?_; rintro e w2 ⟨rfl, hb2⟩; have T := (by first | exact own_trans T hb2 | exact own_trans (own_drew T) hb2 : Below w.heap.size w w2); have BF := Box.below (by first | exact BF | exact Box.drew BF) hb2; obtain ⟨_, _, _, _, _, _, _⟩ := BF.three))
  all_goals
    go_wp2
    all_goals
      go_ret
      exact ⟨by first | rfl | (apply ret_bool; simp; omega), T⟩

set_option maxHeartbeats 2000000 in
theorem l05Red_I (t : Bool) (a b c : Int) (h1 : 0 < disc a b c) (ht : rdI a b c = t) (ha : FE a) (hb : FE b) (hc : FE c) (w : World) :
    Calls Tryd.prog 34 #[(.agg #[.int .i64 a, .int .i64 b, .int .i64 c])] w fun e w' => e = .returned (.bool t) ∧ Below w.heap.size w w' := by
  have hbd := (disc_bd ha hb hc).2
  have kb : -1000000 ≤ b ∧ b ≤ 1000000 := hb
  have ka : -1000000 ≤ a ∧ a ≤ 1000000 := ha
  unfold rdI at ht
  obtain ⟨d, hd⟩ : ∃ d, disc a b c = d := ⟨_, rfl⟩
  rw [hd] at h1 ht hbd
  have HD := Lib.hid (fun w => l05Disc_is d a b c hd ha hb hc w)
  clear hd ha hb hc
  have hh : ∃ m : Int, m = (a.natAbs : Int) ∧ ((a = m ∧ -a ≤ a) ∨ (-a = m ∧ a < -a)) ∧ 0 ≤ m ∧ m ≤ 1000000 := ⟨_, rfl, by omega, by omega, by omega⟩
  obtain ⟨m, hm, hs, hm0, hm1⟩ := hh
  rw [← hm] at ht
  clear hm
  have k0 := redI_cases _ b d t ht
  have p1 := mul_bd (a := b) (d := b) (A := 1000000) (D := 1000000) (by omega) (by omega)
  have p2 := mul_bd (a := 2 * m + b) (d := 2 * m + b) (A := 3000000) (D := 3000000) (by omega) (by omega)
  have p3 := mul_bd (a := 2 * m - b) (d := 2 * m - b) (A := 3000000) (D := 3000000) (by omega) (by omega)
  clear ht
  rcases hs with ⟨rfl, hs⟩ | ⟨rfl, hs⟩
  all_goals
    rcases k0 with ⟨k1, rfl⟩ | ⟨k1, k2, rfl⟩ | ⟨k1, k2, k3, rfl⟩ | ⟨k1, k2, k3, k4, rfl⟩ | ⟨k1, k2, k3, k4, k5, rfl⟩ | ⟨k1, k2, k3, k4, k5, rfl⟩
  all_goals
    go_enter Tryd.func34, Tryd.ntmps34
    go_upto_region 1 with fail
    have BF : Box (w.alloc (.cells #[.int .i64 a, .int .i64 b, .int .i64 c] 24)) w.heap.size [.int .i64 a, .int .i64 b, .int .i64 c] := Box.new _ _ _
    have T : Below w.heap.size w (w.alloc (.cells #[.int .i64 a, .int .i64 b, .int .i64 c] 24)) := own_alloc (own_refl _) _
    obtain ⟨_, _, _, _, _, _, _⟩ := BF.three
    go_region_held3 (fun w' => w'.cell? ⟨w.heap.size, 0, none⟩ = some (.int .i64 a) ∧ w'.cell? ⟨w.heap.size, 1, none⟩ = some (.int .i64 b) ∧ w'.cell? ⟨w.heap.size, 2, none⟩ = some (.int .i64 c)) (go_keep)
      (first
        | (go_at_call 33; refine (HD.out _).mono ?_; rintro e w2 ⟨rfl, hb2⟩; have T := (by first | exact own_trans T hb2 | exact own_trans (own_drew T) hb2 : Below w.heap.size w w2); have BF := Box.below (by first | exact BF | exact Box.drew BF) hb2; obtain ⟨_, _, _, _, _, _, _⟩ := BF.three))
  all_goals
    go_wp2
    all_goals
      go_ret
      exact ⟨by first | rfl | (apply ret_bool; simp; omega), T⟩
end Go.Proofs.YtfpgdbdgglbleaaDoor
