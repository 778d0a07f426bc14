/- MatrixOfRuns: both sides over a slice, and the law's walk. -/
import Derived.Test.YteknmpnkjoopfaaDoorMorS
import Derived.Test.YteknmpnkjoopfaaDoorLoMatrixOfRuns
namespace Go.Proofs.YteknmpnkjoopfaaDoor
open Go.ChangeShapes Go.WideShapes Go.ChangeAt Go.RowKit

theorem runsOk_long {xs : List Int} (h : 100 < xs.length) : runsOk xs = false := by unfold runsOk; rw [decide_eq_false (by omega)]; rfl
set_option maxRecDepth 100000 in
set_option maxHeartbeats 1000000 in
theorem implMor_long (a : Option Addr) (cap : Nat) (xs : List Int) (hn : 100 < xs.length) (hn' : xs.length ≤ 1048576) (w : World) :
    Calls Tryd.prog 21 #[.slice a xs.length cap] w fun e w' => e = .returned (.tuple #[(.agg #[.int .i64 0, .int .i64 0, .int .i64 0, .int .i64 0]), (.int .i64 2)]) ∧ Below w.heap.size w w' := by
  have HA := Lib.hid (fun w => areRuns_long a cap xs hn hn' w)
  have HF := Lib.hid (runsOk_long hn)
  clear hn hn'
  go_enter Tryd.func21, Tryd.ntmps21
  go_wp2_with fail
  refine (HA.out _).mono ?_
  rw [HF.out]
  rintro e w1 ⟨rfl, rfl⟩
  go_wp2
  exact bodyPost_ret (v := .tuple #[(.agg #[.int .i64 0, .int .i64 0, .int .i64 0, .int .i64 0]), (.int .i64 2)]) (by simp [results, Tryd.results21, go_sem]) rfl ⟨rfl, by repeat (first | with_reducible exact own_refl _ | with_reducible assumption | with_reducible apply own_alloc | with_reducible apply own_drewN | with_reducible apply own_drew | ((with_reducible refine own_setCell ?_ ?_ _); rotate_left; focus (first | (simp; done) | (simp; omega))) | (with_reducible (refine own_trans ?_ (by assumption))))⟩
set_option maxRecDepth 100000 in
set_option maxHeartbeats 1000000 in
theorem implMor_bad (b off cap : Nat) (xs : List Int) (h1 : 1 ≤ xs.length) (hn : xs.length ≤ 100) (hok : runsOk xs = false) (w : World)
    (hb : b < w.heap.size) (hc : ∀ k, k < xs.length → w.cell? ⟨b, off + k, none⟩ = some (.int .i64 (xs.getD k 0))) :
    Calls Tryd.prog 21 #[.slice (some ⟨b, off, none⟩) xs.length cap] w fun e w' => e = .returned (.tuple #[(.agg #[.int .i64 0, .int .i64 0, .int .i64 0, .int .i64 0]), (.int .i64 2)]) ∧ Below w.heap.size w w' := by
  have HOK := Lib.hid hok
  have hcW : ∀ k, k < xs.length → (w.alloc (.cells #[.int .i64 0, .int .i64 0, .int .i64 0, .int .i64 0] 26)).cell? ⟨b, off + k, none⟩ = some (.int .i64 (xs.getD k 0)) := fun k hk => ((own_alloc (own_refl w) _).cell (p := ⟨b, off + k, none⟩) hb).trans (hc k hk)
  have HCW := Lib.hid hcW
  clear hc hok hcW
  go_enter Tryd.func21, Tryd.ntmps21
  go_wp2_with fail
  refine (areRuns_is false b off cap xs h1 hn HOK.out _ HCW.out).mono ?_
  rintro e w1 ⟨rfl, rfl⟩
  go_wp2
  exact bodyPost_ret (v := .tuple #[(.agg #[.int .i64 0, .int .i64 0, .int .i64 0, .int .i64 0]), (.int .i64 2)]) (by simp [results, Tryd.results21, go_sem]) rfl ⟨rfl, by repeat (first | with_reducible exact own_refl _ | with_reducible assumption | with_reducible apply own_alloc | with_reducible apply own_drewN | with_reducible apply own_drew | ((with_reducible refine own_setCell ?_ ?_ _); rotate_left; focus (first | (simp; done) | (simp; omega))) | (with_reducible (refine own_trans ?_ (by assumption))))⟩
set_option maxRecDepth 100000 in
set_option maxHeartbeats 2000000 in
theorem implMor_nil (a : Option Addr) (cap : Nat) (w : World) (hid : Idn w) :
    Calls Tryd.prog 21 #[.slice a 0 cap] w fun e w' => e = .returned (.tuple #[(.agg #[.int .i64 1, .int .i64 0, .int .i64 0, .int .i64 1]), (.int .i64 0)]) ∧ Below w.heap.size w w' := by
  obtain ⟨cur, hcur, hmk⟩ := makeA 0 (by omega)
  obtain rfl : cur = #[] := by cases cur; simp_all
  clear hcur
  have hmk0 : ∀ w : World, (Instr.makeSlice 71 (.int .i64 0) (.int .i64 0)).run Tryd.prog w = .ok (.slice (some ⟨w.heap.size, 0, none⟩) 0 0) (w.alloc (.cells #[] 26)) := hmk
  clear hmk
  go_enter Tryd.func21, Tryd.ntmps21
  go_wp2_with fail
  refine (areRuns_nil _ _ _).mono ?_
  rintro e w1 ⟨rfl, rfl⟩
  go_wp2
  go_loopw [4, 17] (fun v i wr => v = .slice (some ⟨w.heap.size + 1, 0, none⟩) 0 0 ∧ i = (.int .i64 0) ∧ Below w.heap.size w wr ∧ w.heap.size + 2 ≤ wr.heap.size ∧ Box wr w.heap.size [.int .i64 0, .int .i64 0, .int .i64 0, .int .i64 0]) (fun _ _ _ => 0)
  case atStart => exact ⟨rfl, rfl, by repeat (first | with_reducible exact own_refl _ | with_reducible assumption | with_reducible apply own_alloc | with_reducible apply own_drewN | with_reducible apply own_drew | ((with_reducible refine own_setCell ?_ ?_ _); rotate_left; focus (first | (simp; done) | (simp; omega))) | (with_reducible (refine own_trans ?_ (by assumption)))), by simp, Box.alloc (Box.new _ _ _) _⟩
  case round =>
    obtain ⟨rfl, rfl, T, hz, hR⟩ := hrel
    go_wp2_with fail
    refine (prodAll_any [] (w.heap.size + 1) 0 (by simp) Mat.one 0 (.inr (.inr ⟨rfl, rfl, rfl⟩)) _ (Rd.below hid T) ⟨by omega, fun i v hv => by simp [matCells] at hv⟩).mono ?_
    rintro e w4 ⟨rfl, hb4⟩
    obtain ⟨_, _, _, _, _, _, _, _, _⟩ := (hR.below hb4).four
    go_wp2
    obtain ⟨d0, d1, d2, d3⟩ := (hR.below hb4).reads4' (.int .i64 1) (.int .i64 0) (.int .i64 0) (.int .i64 1)
    exact bodyPost_ret (v := .tuple #[(.agg #[.int .i64 1, .int .i64 0, .int .i64 0, .int .i64 1]), (.int .i64 0)]) (by simp [results, Tryd.results21, go_sem, d0, d1, d2, d3, Mat.one]) rfl ⟨rfl, by repeat (first | with_reducible exact own_refl _ | with_reducible assumption | with_reducible apply own_alloc | with_reducible apply own_drewN | with_reducible apply own_drew | ((with_reducible refine own_setCell ?_ ?_ _); rotate_left; focus (first | (simp; done) | (simp; omega))) | (with_reducible (refine own_trans ?_ (by assumption))))⟩
set_option maxRecDepth 100000 in
set_option maxHeartbeats 2000000 in
theorem specMor_nil (a : Option Addr) (cap : Nat) (w : World) :
    Calls Tryd.prog 19 #[.slice a 0 cap] w fun e w' => e = .returned (.tuple #[(.agg #[.int .i64 1, .int .i64 0, .int .i64 0, .int .i64 1]), (.int .i64 0)]) ∧ Below w.heap.size w w' := by
  go_enter Tryd.func19, Tryd.ntmps19
  go_wp2
  go_loop [4] (fun i => i = (.int .i64 0)) (fun _ => 0)
  case atStart => rfl
  case round =>
    subst hrel
    go_wp2_with fail
    refine (l02Unit_any _).mono ?_
    rintro e w1 ⟨rfl, hb1⟩
    have hR1 : Box w1 w.heap.size [.int .i64 0, .int .i64 0, .int .i64 0, .int .i64 0] := Box.below (Box.new _ _ _) hb1
    have hT1 : Below w.heap.size w w1 := by repeat (first | with_reducible exact own_refl _ | with_reducible assumption | with_reducible apply own_alloc | with_reducible apply own_drewN | with_reducible apply own_drew | ((with_reducible refine own_setCell ?_ ?_ _); rotate_left; focus (first | (simp; done) | (simp; omega))) | (with_reducible (refine own_trans ?_ (by assumption))))
    have hz1 := hR1.1
    have hne1 : ¬ (w1.heap.size = w.heap.size) := by omega
    go_wp2
    go_loopw [6, 7] (fun f i wr => i = (.int .i64 0) ∧ f = .bool true ∧ Below w.heap.size w wr ∧ Box wr w.heap.size [.int .i64 0, .int .i64 0, .int .i64 0, .int .i64 0] ∧ Box wr w1.heap.size [.int .i64 1, .int .i64 0, .int .i64 0, .int .i64 1]) (fun _ _ _ => 0)
    case atStart => exact ⟨rfl, rfl, own_alloc hT1 _, hR1.alloc _, Box.new _ _ _⟩
    case round =>
      obtain ⟨rfl, rfl, T, hR, hP⟩ := hrel
      obtain ⟨_, _, _, _, _, _, _, _, _⟩ := hR.four
      obtain ⟨_, _, _, _, _, _, _, _, _⟩ := hP.four
      go_wp2
      obtain ⟨d0, d1, d2, d3⟩ := hR.reads4' (.int .i64 1) (.int .i64 0) (.int .i64 0) (.int .i64 1)
      exact bodyPost_ret (v := .tuple #[(.agg #[.int .i64 1, .int .i64 0, .int .i64 0, .int .i64 1]), (.int .i64 0)]) (by simp [results, Tryd.results19, go_sem, d0, d1, d2, d3]) rfl ⟨rfl, by repeat (first | with_reducible exact own_refl _ | with_reducible assumption | with_reducible apply own_alloc | with_reducible apply own_drewN | with_reducible apply own_drew | ((with_reducible refine own_setCell ?_ ?_ _); rotate_left; focus (first | (simp; done) | (simp; omega))) | (with_reducible (refine own_trans ?_ (by assumption))))⟩

theorem slice_open {w : World} {L U : Nat} {v : Value} {xs : List Int} (h : Sl w L U v xs) : ∃ a cap, v = .slice a xs.length cap ∧ (0 < xs.length → ∃ g off, a = some ⟨g, off, none⟩ ∧ g < w.heap.size ∧ ∀ k, k < xs.length → w.cell? ⟨g, off + k, none⟩ = some (.int .i64 (xs.getD k 0))) := by
  obtain ⟨hu, a, cap, rfl, hc⟩ := h
  refine ⟨a, cap, rfl, fun h0 => ?_⟩
  obtain ⟨g, off, rfl, _, hg, r⟩ := hc h0
  exact ⟨g, off, rfl, Nat.lt_of_lt_of_le hg hu, fun k hk => (r k hk).1⟩
theorem lawMatrixOfRuns_walk (xs : List Int) (ad : Option Addr) (cap : Nat) (w : World) (hr : Rs w ad xs) (_ : ∀ x ∈ xs, I64 x) (hn : xs.length ≤ 9223372036854775807) (hid : Idn w) :
    Calls Tryd.prog 4 #[.slice ad xs.length cap] w fun e w' => e = .returned (.bool true) ∧ Below w.heap.size w w' := by
  by_cases h1 : xs.length ≤ 1048576
  · rcases (show 100 < xs.length ∨ xs.length = 0 ∨ (1 ≤ xs.length ∧ xs.length ≤ 100) by omega) with h2 | h2 | ⟨h2, h3⟩
    · refine lawMatrixOfRuns_of xs ad cap 0 0 0 0 2 h1 (fun v L U w hS => ?_) (fun v L U w hS _ => ?_) w hr hid
      · obtain ⟨a, c, rfl, _⟩ := slice_open hS
        exact specMor_long a c xs h2 h1 w
      · obtain ⟨a, c, rfl, _⟩ := slice_open hS
        exact implMor_long a c xs h2 h1 w
    · obtain rfl : xs = [] := List.length_eq_zero_iff.1 h2
      refine lawMatrixOfRuns_of [] ad cap 1 0 0 1 0 h1 (fun v L U w hS => ?_) (fun v L U w hS hI => ?_) w hr hid
      · obtain ⟨a, c, rfl, _⟩ := slice_open hS
        exact specMor_nil a c w
      · obtain ⟨a, c, rfl, _⟩ := slice_open hS
        exact implMor_nil a c w hI
    · rcases hok : runsOk xs with _ | _
      · refine lawMatrixOfRuns_of xs ad cap 0 0 0 0 2 h1 (fun v L U w hS => ?_) (fun v L U w hS _ => ?_) w hr hid
        · obtain ⟨a, c, rfl, ho⟩ := slice_open hS
          obtain ⟨g, off, rfl, hg, hc⟩ := ho (by omega)
          exact specMor_bad g off c xs h2 h3 hok w hg hc
        · obtain ⟨a, c, rfl, ho⟩ := slice_open hS
          obtain ⟨g, off, rfl, hg, hc⟩ := ho (by omega)
          exact implMor_bad g off c xs h2 h3 hok w hg hc
      · obtain ⟨r, kd, hPA⟩ := PA.any (runMats 0 xs)
        refine lawMatrixOfRuns_of xs ad cap r.a r.b r.c r.d kd h1 (fun v L U w hS => ?_) (fun v L U w hS hI => ?_) w hr hid
        · obtain ⟨a, c, rfl, ho⟩ := slice_open hS
          obtain ⟨g, off, rfl, hg, hc⟩ := ho (by omega)
          exact specMor_some g off c xs h2 h3 hok r kd hPA w hg hc
        · obtain ⟨a, c, rfl, ho⟩ := slice_open hS
          obtain ⟨g, off, rfl, hg, hc⟩ := ho (by omega)
          exact implMor_some g off c xs h2 h3 hok r kd hPA w hI hg hc
  · exact lawMatrixOfRuns_long xs ad cap h1 hn w
end Go.Proofs.YteknmpnkjoopfaaDoor
