/- MatrixOfRuns: both sides over a slice, and the law's walk. -/
import Derived.Test.YtpmifhjbngocmaaDoorMorS
import Derived.Test.YtpmifhjbngocmaaDoorLoMatrixOfRuns
namespace Go.Proofs.YtpmifhjbngocmaaDoor
open Go.ChangeShapes Go.WideShapes Go.ChangeAt Go.RowKit

theorem runsOk_long {xs : List Int} (h : 100 < xs.length) : runsOk xs = false := by unfold runsOk; rw [decide_eq_false (by omega)]; rfl
set_option maxRecDepth 100000 in
set_option maxHeartbeats 1000000 in
theorem implMor_long (a : Option Addr) (cap : Nat) (xs : List Int) (hn : 100 < xs.length) (hn' : xs.length ≤ 1048576) (w : World) :
    Calls Tryd.prog 38 #[.slice a xs.length cap] w fun e w' => e = .returned (.tuple #[(.agg #[.int .i64 0, .int .i64 0, .int .i64 0, .int .i64 0]), (.int .i64 2)]) ∧ Below w.heap.size w w' := by
  have HA := Lib.hid (fun w => areRuns_long a cap xs hn hn' w)
  have HF := Lib.hid (runsOk_long hn)
  clear hn hn'
  go_enter Tryd.func38, Tryd.ntmps38
  go_wp2_with fail
  refine (HA.out _).mono ?_
  rw [HF.out]
  rintro e w1 ⟨rfl, rfl⟩
  go_wp2
  exact bodyPost_ret (v := .tuple #[(.agg #[.int .i64 0, .int .i64 0, .int .i64 0, .int .i64 0]), (.int .i64 2)]) (by simp [results, Tryd.results38, go_sem]) rfl ⟨rfl, by repeat (first | with_reducible exact own_refl _ | with_reducible assumption | with_reducible apply own_alloc | with_reducible apply own_drewN | with_reducible apply own_drew | ((with_reducible refine own_setCell ?_ ?_ _); rotate_left; focus (first | (simp; done) | (simp; omega))) | (with_reducible (refine own_trans ?_ (by assumption))))⟩
set_option maxRecDepth 100000 in
set_option maxHeartbeats 1000000 in
theorem implMor_bad (b off cap : Nat) (xs : List Int) (h1 : 1 ≤ xs.length) (hn : xs.length ≤ 100) (hok : runsOk xs = false) (w : World)
    (hb : b < w.heap.size) (hc : ∀ k, k < xs.length → w.cell? ⟨b, off + k, none⟩ = some (.int .i64 (xs.getD k 0))) :
    Calls Tryd.prog 38 #[.slice (some ⟨b, off, none⟩) xs.length cap] w fun e w' => e = .returned (.tuple #[(.agg #[.int .i64 0, .int .i64 0, .int .i64 0, .int .i64 0]), (.int .i64 2)]) ∧ Below w.heap.size w w' := by
  have HOK := Lib.hid hok
  have hcW : ∀ k, k < xs.length → (w.alloc (.cells #[.int .i64 0, .int .i64 0, .int .i64 0, .int .i64 0] 25)).cell? ⟨b, off + k, none⟩ = some (.int .i64 (xs.getD k 0)) := fun k hk => ((own_alloc (own_refl w) _).cell (p := ⟨b, off + k, none⟩) hb).trans (hc k hk)
  have HCW := Lib.hid hcW
  clear hc hok hcW
  go_enter Tryd.func38, Tryd.ntmps38
  go_wp2_with fail
  refine (areRuns_is false b off cap xs h1 hn HOK.out _ HCW.out).mono ?_
  rintro e w1 ⟨rfl, rfl⟩
  go_wp2
  exact bodyPost_ret (v := .tuple #[(.agg #[.int .i64 0, .int .i64 0, .int .i64 0, .int .i64 0]), (.int .i64 2)]) (by simp [results, Tryd.results38, go_sem]) rfl ⟨rfl, by repeat (first | with_reducible exact own_refl _ | with_reducible assumption | with_reducible apply own_alloc | with_reducible apply own_drewN | with_reducible apply own_drew | ((with_reducible refine own_setCell ?_ ?_ _); rotate_left; focus (first | (simp; done) | (simp; omega))) | (with_reducible (refine own_trans ?_ (by assumption))))⟩
set_option maxRecDepth 100000 in
set_option maxHeartbeats 2000000 in
theorem implMor_nil (a : Option Addr) (cap : Nat) (w : World) (hid : Idn w) :
    Calls Tryd.prog 38 #[.slice a 0 cap] w fun e w' => e = .returned (.tuple #[(.agg #[.int .i64 1, .int .i64 0, .int .i64 0, .int .i64 1]), (.int .i64 0)]) ∧ Below w.heap.size w w' := by
  obtain ⟨cur, hcur, hmk⟩ := makeA 0 (by omega)
  obtain rfl : cur = #[] := by cases cur; simp_all
  clear hcur
  have hmk0 : ∀ w : World, (Instr.makeSlice 89 (.int .i64 0) (.int .i64 0)).run Tryd.prog w = .ok (.slice (some ⟨w.heap.size, 0, none⟩) 0 0) (w.alloc (.cells #[] 25)) := hmk
  clear hmk
  go_enter Tryd.func38, Tryd.ntmps38
  go_wp2_with fail
  refine (areRuns_nil _ _ _).mono ?_
  rintro e w1 ⟨rfl, rfl⟩
  go_wp2
  go_loopw [4, 17] (fun v i wr => v = .slice (some ⟨w.heap.size + 1, 0, none⟩) 0 0 ∧ i = (.int .i64 0) ∧ Below w.heap.size w wr ∧ w.heap.size + 2 ≤ wr.heap.size ∧ Box wr w.heap.size [.int .i64 0, .int .i64 0, .int .i64 0, .int .i64 0]) (fun _ _ _ => 0)
  case atStart => exact ⟨rfl, rfl, by repeat (first | with_reducible exact own_refl _ | with_reducible assumption | with_reducible apply own_alloc | with_reducible apply own_drewN | with_reducible apply own_drew | ((with_reducible refine own_setCell ?_ ?_ _); rotate_left; focus (first | (simp; done) | (simp; omega))) | (with_reducible (refine own_trans ?_ (by assumption)))), by simp, Box.alloc (Box.new _ _ _) _⟩
  case round =>
    obtain ⟨rfl, rfl, T, hz, hR⟩ := hrel
    go_wp2_with fail
    refine (prodAll_any [] (w.heap.size + 1) 0 (by simp) Mat.one 0 (.inr (.inr ⟨rfl, rfl, rfl⟩)) _ (Rd.below hid T) ⟨by omega, fun i v hv => by simp [matCells] at hv⟩).mono ?_
    rintro e w4 ⟨rfl, hb4⟩
    obtain ⟨_, _, _, _, _, _, _, _, _⟩ := (hR.below hb4).four
    go_wp2
    obtain ⟨d0, d1, d2, d3⟩ := (hR.below hb4).reads4' (.int .i64 1) (.int .i64 0) (.int .i64 0) (.int .i64 1)
    exact bodyPost_ret (v := .tuple #[(.agg #[.int .i64 1, .int .i64 0, .int .i64 0, .int .i64 1]), (.int .i64 0)]) (by simp [results, Tryd.results38, go_sem, d0, d1, d2, d3, Mat.one]) rfl ⟨rfl, by repeat (first | with_reducible exact own_refl _ | with_reducible assumption | with_reducible apply own_alloc | with_reducible apply own_drewN | with_reducible apply own_drew | ((with_reducible refine own_setCell ?_ ?_ _); rotate_left; focus (first | (simp; done) | (simp; omega))) | (with_reducible (refine own_trans ?_ (by assumption))))⟩
theorem slice_open {w : World} {L U : Nat} {v : Value} {xs : List Int} (h : Sl w L U v xs) : ∃ a cap, v = .slice a xs.length cap ∧ (0 < xs.length → ∃ g off, a = some ⟨g, off, none⟩ ∧ g < w.heap.size ∧ ∀ k, k < xs.length → w.cell? ⟨g, off + k, none⟩ = some (.int .i64 (xs.getD k 0))) := by
  obtain ⟨hu, a, cap, rfl, hc⟩ := h
  refine ⟨a, cap, rfl, fun h0 => ?_⟩
  obtain ⟨g, off, rfl, _, hg, r⟩ := hc h0
  exact ⟨g, off, rfl, Nat.lt_of_lt_of_le hg hu, fun k hk => (r k hk).1⟩
end Go.Proofs.YtpmifhjbngocmaaDoor
