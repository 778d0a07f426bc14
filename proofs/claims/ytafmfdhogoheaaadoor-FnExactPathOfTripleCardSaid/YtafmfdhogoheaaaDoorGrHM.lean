/- The law's comparison of slices of triples. -/
import Derived.Test.YtafmfdhogoheaaaDoorGrH
import Derived.Test.YtafmfdhogoheaaaDoorSl
import Derived.Test.YtafmfdhogoheaaaDoorTri
namespace Go.Proofs.YtafmfdhogoheaaaDoor
open Go.ChangeShapes Go.WideShapes Go.ChangeAt Go.RowKit

theorem flat_atH {w : World} {g n k : Nat} {xs : List Int} (hc : ∀ k, k < 3 * n → w.cell? ⟨g, k, none⟩ = some (.int .i64 (xs.getD k 0)) ∧ w.frozen? ⟨g, k, none⟩ = false) (hk : k < n) :
    w.cell? ⟨g, k * 3, none⟩ = some (.int .i64 (xs.getD (3 * k + 0) 0)) ∧ w.cell? ⟨g, k * 3 + 1, none⟩ = some (.int .i64 (xs.getD (3 * k + 1) 0)) ∧ w.cell? ⟨g, k * 3 + 2, none⟩ = some (.int .i64 (xs.getD (3 * k + 2) 0)) := by
  rw [Nat.mul_comm k 3]
  exact ⟨(hc (3 * k + 0) (by omega)).1, (hc (3 * k + 1) (by omega)).1, (hc (3 * k + 2) (by omega)).1⟩

set_option maxHeartbeats 1000000 in
theorem eqHS_same (v u : Value) (n : Nat) (xs : List Int) (L U L' U' : Nat) (w : World) (hn : n ≤ 1000000000) (hv : SlH w L U v n xs) (hu : SlH w L' U' u n xs) :
    Calls Tryd.prog 10 #[v, u] w fun e w' => e = .returned (.bool true) ∧ Below w.heap.size w w' := by
  obtain ⟨_, z, a, cap, rfl, hc⟩ := hv
  obtain ⟨_, z', a', cap', rfl, hc'⟩ := hu
  rcases Nat.eq_zero_or_pos n with h0 | h0
  · subst h0
    clear hc hc' hn
    go_enter Tryd.func10, Tryd.ntmps10
    go_wp2
    go_loop [5] (fun i => i = (.int .i64 0)) (fun _ => 0)
    case atStart => rfl
    case round =>
      subst hrel
      go_wp2
      go_ret
      exact ⟨rfl, own_refl _⟩
  · obtain ⟨g, rfl, _, hg, hc⟩ := hc h0
    obtain ⟨g', rfl, _, hg', hc'⟩ := hc' h0
    have HC := Lib.hid hc
    have HC' := Lib.hid hc'
    clear hc hc'
    go_enter Tryd.func10, Tryd.ntmps10
    go_wp2
    go_loopw [5] (fun i wr => ∃ k : Nat, k ≤ n ∧ i = (.int .i64 k) ∧ Below w.heap.size w wr) (fun i _ => n - (intOf i).toNat)
    case atStart => exact ⟨0, Nat.zero_le _, rfl, own_refl _⟩
    case round =>
      obtain ⟨k, hk, rfl, hb⟩ := hrel
      by_cases hlt : k < n
      · have b1 : ∀ j, j < 3 * n → wr.cell? ⟨g, j, none⟩ = some (.int .i64 (xs.getD j 0)) ∧ wr.frozen? ⟨g, j, none⟩ = false := fun j hj => by
          rw [hb.cell (p := ⟨g, j, none⟩) (by show g < _; omega), hb.frozen (p := ⟨g, j, none⟩) (by show g < _; omega)]; exact HC.out j hj
        have b2 : ∀ j, j < 3 * n → wr.cell? ⟨g', j, none⟩ = some (.int .i64 (xs.getD j 0)) ∧ wr.frozen? ⟨g', j, none⟩ = false := fun j hj => by
          rw [hb.cell (p := ⟨g', j, none⟩) (by show g' < _; omega), hb.frozen (p := ⟨g', j, none⟩) (by show g' < _; omega)]; exact HC'.out j hj
        have c1 := flat_atH b1 hlt
        have c2 := flat_atH b2 hlt
        clear b1 b2
        obtain ⟨x0, hx0⟩ : ∃ x, xs.getD (3 * k + 0) 0 = x := ⟨_, rfl⟩
        obtain ⟨x1, hx1⟩ : ∃ x, xs.getD (3 * k + 1) 0 = x := ⟨_, rfl⟩
        obtain ⟨x2, hx2⟩ : ∃ x, xs.getD (3 * k + 2) 0 = x := ⟨_, rfl⟩
        rw [hx0, hx1, hx2] at c1 c2
        clear hx0 hx1 hx2
        obtain ⟨c10, c11, c12⟩ := c1
        obtain ⟨c20, c21, c22⟩ := c2
        have T := hb
        go_upto_region 6 with fail
        go_cut [26] (fun s wx => s = .bool false ∧ Below w.heap.size w wx)
        case first =>
          go_region_held3 (fun w' => w'.cell? ⟨g, k * 3, none⟩ = some (.int .i64 x0) ∧ w'.cell? ⟨g, k * 3 + 1, none⟩ = some (.int .i64 x1) ∧ w'.cell? ⟨g, k * 3 + 2, none⟩ = some (.int .i64 x2) ∧ w'.cell? ⟨g', k * 3, none⟩ = some (.int .i64 x0) ∧ w'.cell? ⟨g', k * 3 + 1, none⟩ = some (.int .i64 x1) ∧ w'.cell? ⟨g', k * 3 + 2, none⟩ = some (.int .i64 x2)) (go_keep)
            (first | (go_at_call 59; refine (eqTriple_same _ _ _ _).mono ?_; rintro e w2 ⟨rfl, hb2⟩; have T := (by first | exact own_trans T hb2 | exact own_trans (own_drew T) hb2 : Below w.heap.size w w2); have c10 := (by first | exact (hb2.cell (p := ⟨g, k * 3, none⟩) (World.block_lt_of_cell? _ _ c10)).trans c10 : w2.cell? ⟨g, k * 3, none⟩ = some (.int .i64 x0)); have c11 := (by first | exact (hb2.cell (p := ⟨g, k * 3 + 1, none⟩) (World.block_lt_of_cell? _ _ c11)).trans c11 : w2.cell? ⟨g, k * 3 + 1, none⟩ = some (.int .i64 x1)); have c12 := (by first | exact (hb2.cell (p := ⟨g, k * 3 + 2, none⟩) (World.block_lt_of_cell? _ _ c12)).trans c12 : w2.cell? ⟨g, k * 3 + 2, none⟩ = some (.int .i64 x2)); have c20 := (by first | exact (hb2.cell (p := ⟨g', k * 3, none⟩) (World.block_lt_of_cell? _ _ c20)).trans c20 : w2.cell? ⟨g', k * 3, none⟩ = some (.int .i64 x0)); have c21 := (by first | exact (hb2.cell (p := ⟨g', k * 3 + 1, none⟩) (World.block_lt_of_cell? _ _ c21)).trans c21 : w2.cell? ⟨g', k * 3 + 1, none⟩ = some (.int .i64 x1)); have c22 := (by first | exact (hb2.cell (p := ⟨g', k * 3 + 2, none⟩) (World.block_lt_of_cell? _ _ c22)).trans c22 : w2.cell? ⟨g', k * 3 + 2, none⟩ = some (.int .i64 x2))))
          all_goals
            go_wp2_with fail
            go_meet
            exact ⟨rfl, T⟩
        case rest =>
          obtain ⟨rfl, T⟩ := hcut
          go_wp2
          go_roundw
          case rel => exact ⟨k + 1, by omega, by go_num, T⟩
          case measure => simp [intOf]; omega
      · go_wp2
        go_ret
        exact ⟨rfl, hb⟩
end Go.Proofs.YtafmfdhogoheaaaDoor
