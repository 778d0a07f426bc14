/- Contracts of the spec's kinds. -/
import Derived.Test.YtfpgdbdgglbleaaDoorKind
namespace Go.Proofs.YtfpgdbdgglbleaaDoor
open Go.ChangeShapes Go.WideShapes Go.ChangeAt Go.RowKit

set_option maxHeartbeats 1000000 in
theorem l01Kind_zero (a b c d : Int) (ea : Ent a) (ed : Ent d) (hb : b = 0) (hc : c = 0) (w : World) :
    Calls Tryd.prog 14 #[(.agg #[.int .i64 a, .int .i64 b, .int .i64 c, .int .i64 d])] w fun e w' => e = .returned (.int .i64 0) ∧ Below w.heap.size w w' := by
  have hv : max (a + d) (-(a + d)) = ((a + d).natAbs : Int) := by omega
  have HV := Lib.hid hv
  have hbd : -2000000000 ≤ a + d ∧ a + d ≤ 2000000000 := by unfold Ent at ea ed; omega
  obtain ⟨_, _⟩ := hbd
  have hb' : (b == 0) = true := by simpa using hb
  have hc' : (c == 0) = true := by simpa using hc
  clear hb hc
  have hw : IntKind.i64.wrap (-(a + d)) = -(a + d) := IntWalk.i64_in _ (by omega)
  clear hv
  go_enter Tryd.func14, Tryd.ntmps14
  go_upto_region 1 with fail
  have BA : Box (w.alloc (.cells #[.int .i64 a, .int .i64 b, .int .i64 c, .int .i64 d] 27)) w.heap.size [.int .i64 a, .int .i64 b, .int .i64 c, .int .i64 d] := Box.new _ _ _
  have T : Below w.heap.size w (w.alloc (.cells #[.int .i64 a, .int .i64 b, .int .i64 c, .int .i64 d] 27)) := own_alloc (own_refl _) _
  go_cut [3] (fun s wx => s = (.int .i64 (((a + d).natAbs : Int))) ∧ Below w.heap.size w wx ∧ Box wx w.heap.size [.int .i64 a, .int .i64 b, .int .i64 c, .int .i64 d])
  case first =>
    go_region_held3 (fun w' => w'.cell? ⟨w.heap.size, 0, none⟩ = some (.int .i64 a) ∧ w'.cell? ⟨w.heap.size, 1, none⟩ = some (.int .i64 b) ∧ w'.cell? ⟨w.heap.size, 2, none⟩ = some (.int .i64 c) ∧ w'.cell? ⟨w.heap.size, 3, none⟩ = some (.int .i64 d)) (go_keep)
      (first
        | (go_at_call 26; refine (l01Trace_any _ _ _ _ ea ed _).mono ?_; rintro e w2 ⟨rfl, hb2⟩; have T := (by first | exact own_trans T hb2 | exact own_trans (own_drew T) hb2 : Below w.heap.size w w2); have BA := Box.below (by first | exact BA | exact Box.drew BA) hb2; obtain ⟨_, _, _, _, _, _, _, _, _⟩ := BA.four))
    all_goals go_wp2_with fail
    all_goals go_meet
    all_goals exact ⟨by first | rfl | (congr 1; omega), T, BA⟩
  case rest =>
    obtain ⟨rfl, T, BA⟩ := hcut
    obtain ⟨_, _, _, _, _, _, _, _, _⟩ := BA.four
    go_wp2
    go_ret
    exact ⟨rfl, T⟩

set_option maxHeartbeats 1000000 in
theorem l01Kind_b1 (a b c d : Int) (ea : Ent a) (ed : Ent d) (hb : b ≠ 0) (ht : (a + d).natAbs < 2) (w : World) :
    Calls Tryd.prog 14 #[(.agg #[.int .i64 a, .int .i64 b, .int .i64 c, .int .i64 d])] w fun e w' => e = .returned (.int .i64 1) ∧ Below w.heap.size w w' := by
  have hv : max (a + d) (-(a + d)) = ((a + d).natAbs : Int) := by omega
  have HV := Lib.hid hv
  have hbd : -2000000000 ≤ a + d ∧ a + d ≤ 2000000000 := by unfold Ent at ea ed; omega
  obtain ⟨_, _⟩ := hbd
  have hb' : (b == 0) = false := by simpa using hb
  clear hb
  have ht' : ((a + d).natAbs : Int) < 2 := by omega
  clear ht
  have hw : IntKind.i64.wrap (-(a + d)) = -(a + d) := IntWalk.i64_in _ (by omega)
  clear hv
  go_enter Tryd.func14, Tryd.ntmps14
  go_upto_region 1 with fail
  have BA : Box (w.alloc (.cells #[.int .i64 a, .int .i64 b, .int .i64 c, .int .i64 d] 27)) w.heap.size [.int .i64 a, .int .i64 b, .int .i64 c, .int .i64 d] := Box.new _ _ _
  have T : Below w.heap.size w (w.alloc (.cells #[.int .i64 a, .int .i64 b, .int .i64 c, .int .i64 d] 27)) := own_alloc (own_refl _) _
  go_cut [3] (fun s wx => s = (.int .i64 (((a + d).natAbs : Int))) ∧ Below w.heap.size w wx ∧ Box wx w.heap.size [.int .i64 a, .int .i64 b, .int .i64 c, .int .i64 d])
  case first =>
    go_region_held3 (fun w' => w'.cell? ⟨w.heap.size, 0, none⟩ = some (.int .i64 a) ∧ w'.cell? ⟨w.heap.size, 1, none⟩ = some (.int .i64 b) ∧ w'.cell? ⟨w.heap.size, 2, none⟩ = some (.int .i64 c) ∧ w'.cell? ⟨w.heap.size, 3, none⟩ = some (.int .i64 d)) (go_keep)
      (first
        | (go_at_call 26; refine (l01Trace_any _ _ _ _ ea ed _).mono ?_; rintro e w2 ⟨rfl, hb2⟩; have T := (by first | exact own_trans T hb2 | exact own_trans (own_drew T) hb2 : Below w.heap.size w w2); have BA := Box.below (by first | exact BA | exact Box.drew BA) hb2; obtain ⟨_, _, _, _, _, _, _, _, _⟩ := BA.four))
    all_goals go_wp2_with fail
    all_goals go_meet
    all_goals exact ⟨by first | rfl | (congr 1; omega), T, BA⟩
  case rest =>
    obtain ⟨rfl, T, BA⟩ := hcut
    obtain ⟨_, _, _, _, _, _, _, _, _⟩ := BA.four
    go_wp2
    go_ret
    exact ⟨rfl, T⟩

set_option maxHeartbeats 1000000 in
theorem l01Kind_c1 (a b c d : Int) (ea : Ent a) (ed : Ent d) (hb : b = 0) (hc : c ≠ 0) (ht : (a + d).natAbs < 2) (w : World) :
    Calls Tryd.prog 14 #[(.agg #[.int .i64 a, .int .i64 b, .int .i64 c, .int .i64 d])] w fun e w' => e = .returned (.int .i64 1) ∧ Below w.heap.size w w' := by
  have hv : max (a + d) (-(a + d)) = ((a + d).natAbs : Int) := by omega
  have HV := Lib.hid hv
  have hbd : -2000000000 ≤ a + d ∧ a + d ≤ 2000000000 := by unfold Ent at ea ed; omega
  obtain ⟨_, _⟩ := hbd
  have hc' : (c == 0) = false := by simpa using hc
  have hb' : (b == 0) = true := by simpa using hb
  clear hb
  clear hc
  have ht' : ((a + d).natAbs : Int) < 2 := by omega
  clear ht
  have hw : IntKind.i64.wrap (-(a + d)) = -(a + d) := IntWalk.i64_in _ (by omega)
  clear hv
  go_enter Tryd.func14, Tryd.ntmps14
  go_upto_region 1 with fail
  have BA : Box (w.alloc (.cells #[.int .i64 a, .int .i64 b, .int .i64 c, .int .i64 d] 27)) w.heap.size [.int .i64 a, .int .i64 b, .int .i64 c, .int .i64 d] := Box.new _ _ _
  have T : Below w.heap.size w (w.alloc (.cells #[.int .i64 a, .int .i64 b, .int .i64 c, .int .i64 d] 27)) := own_alloc (own_refl _) _
  go_cut [3] (fun s wx => s = (.int .i64 (((a + d).natAbs : Int))) ∧ Below w.heap.size w wx ∧ Box wx w.heap.size [.int .i64 a, .int .i64 b, .int .i64 c, .int .i64 d])
  case first =>
    go_region_held3 (fun w' => w'.cell? ⟨w.heap.size, 0, none⟩ = some (.int .i64 a) ∧ w'.cell? ⟨w.heap.size, 1, none⟩ = some (.int .i64 b) ∧ w'.cell? ⟨w.heap.size, 2, none⟩ = some (.int .i64 c) ∧ w'.cell? ⟨w.heap.size, 3, none⟩ = some (.int .i64 d)) (go_keep)
      (first
        | (go_at_call 26; refine (l01Trace_any _ _ _ _ ea ed _).mono ?_; rintro e w2 ⟨rfl, hb2⟩; have T := (by first | exact own_trans T hb2 | exact own_trans (own_drew T) hb2 : Below w.heap.size w w2); have BA := Box.below (by first | exact BA | exact Box.drew BA) hb2; obtain ⟨_, _, _, _, _, _, _, _, _⟩ := BA.four))
    all_goals go_wp2_with fail
    all_goals go_meet
    all_goals exact ⟨by first | rfl | (congr 1; omega), T, BA⟩
  case rest =>
    obtain ⟨rfl, T, BA⟩ := hcut
    obtain ⟨_, _, _, _, _, _, _, _, _⟩ := BA.four
    go_wp2
    go_ret
    exact ⟨rfl, T⟩

set_option maxHeartbeats 1000000 in
theorem l01Kind_b2 (a b c d : Int) (ea : Ent a) (ed : Ent d) (hb : b ≠ 0) (ht : (a + d).natAbs = 2) (w : World) :
    Calls Tryd.prog 14 #[(.agg #[.int .i64 a, .int .i64 b, .int .i64 c, .int .i64 d])] w fun e w' => e = .returned (.int .i64 2) ∧ Below w.heap.size w w' := by
  have hv : max (a + d) (-(a + d)) = ((a + d).natAbs : Int) := by omega
  have HV := Lib.hid hv
  have hbd : -2000000000 ≤ a + d ∧ a + d ≤ 2000000000 := by unfold Ent at ea ed; omega
  obtain ⟨_, _⟩ := hbd
  have hb' : (b == 0) = false := by simpa using hb
  clear hb
  have ht1 : ¬ ((a + d).natAbs : Int) < 2 := by omega
  have ht2 : (((a + d).natAbs : Int) == 2) = true := by rw [beq_iff_eq]; omega
  clear ht
  have hw : IntKind.i64.wrap (-(a + d)) = -(a + d) := IntWalk.i64_in _ (by omega)
  clear hv
  go_enter Tryd.func14, Tryd.ntmps14
  go_upto_region 1 with fail
  have BA : Box (w.alloc (.cells #[.int .i64 a, .int .i64 b, .int .i64 c, .int .i64 d] 27)) w.heap.size [.int .i64 a, .int .i64 b, .int .i64 c, .int .i64 d] := Box.new _ _ _
  have T : Below w.heap.size w (w.alloc (.cells #[.int .i64 a, .int .i64 b, .int .i64 c, .int .i64 d] 27)) := own_alloc (own_refl _) _
  go_cut [3] (fun s wx => s = (.int .i64 (((a + d).natAbs : Int))) ∧ Below w.heap.size w wx ∧ Box wx w.heap.size [.int .i64 a, .int .i64 b, .int .i64 c, .int .i64 d])
  case first =>
    go_region_held3 (fun w' => w'.cell? ⟨w.heap.size, 0, none⟩ = some (.int .i64 a) ∧ w'.cell? ⟨w.heap.size, 1, none⟩ = some (.int .i64 b) ∧ w'.cell? ⟨w.heap.size, 2, none⟩ = some (.int .i64 c) ∧ w'.cell? ⟨w.heap.size, 3, none⟩ = some (.int .i64 d)) (go_keep)
      (first
        | (go_at_call 26; refine (l01Trace_any _ _ _ _ ea ed _).mono ?_; rintro e w2 ⟨rfl, hb2⟩; have T := (by first | exact own_trans T hb2 | exact own_trans (own_drew T) hb2 : Below w.heap.size w w2); have BA := Box.below (by first | exact BA | exact Box.drew BA) hb2; obtain ⟨_, _, _, _, _, _, _, _, _⟩ := BA.four))
    all_goals go_wp2_with fail
    all_goals go_meet
    all_goals exact ⟨by first | rfl | (congr 1; omega), T, BA⟩
  case rest =>
    obtain ⟨rfl, T, BA⟩ := hcut
    obtain ⟨_, _, _, _, _, _, _, _, _⟩ := BA.four
    go_wp2
    go_ret
    exact ⟨rfl, T⟩

set_option maxHeartbeats 1000000 in
theorem l01Kind_c2 (a b c d : Int) (ea : Ent a) (ed : Ent d) (hb : b = 0) (hc : c ≠ 0) (ht : (a + d).natAbs = 2) (w : World) :
    Calls Tryd.prog 14 #[(.agg #[.int .i64 a, .int .i64 b, .int .i64 c, .int .i64 d])] w fun e w' => e = .returned (.int .i64 2) ∧ Below w.heap.size w w' := by
  have hv : max (a + d) (-(a + d)) = ((a + d).natAbs : Int) := by omega
  have HV := Lib.hid hv
  have hbd : -2000000000 ≤ a + d ∧ a + d ≤ 2000000000 := by unfold Ent at ea ed; omega
  obtain ⟨_, _⟩ := hbd
  have hc' : (c == 0) = false := by simpa using hc
  have hb' : (b == 0) = true := by simpa using hb
  clear hb
  clear hc
  have ht1 : ¬ ((a + d).natAbs : Int) < 2 := by omega
  have ht2 : (((a + d).natAbs : Int) == 2) = true := by rw [beq_iff_eq]; omega
  clear ht
  have hw : IntKind.i64.wrap (-(a + d)) = -(a + d) := IntWalk.i64_in _ (by omega)
  clear hv
  go_enter Tryd.func14, Tryd.ntmps14
  go_upto_region 1 with fail
  have BA : Box (w.alloc (.cells #[.int .i64 a, .int .i64 b, .int .i64 c, .int .i64 d] 27)) w.heap.size [.int .i64 a, .int .i64 b, .int .i64 c, .int .i64 d] := Box.new _ _ _
  have T : Below w.heap.size w (w.alloc (.cells #[.int .i64 a, .int .i64 b, .int .i64 c, .int .i64 d] 27)) := own_alloc (own_refl _) _
  go_cut [3] (fun s wx => s = (.int .i64 (((a + d).natAbs : Int))) ∧ Below w.heap.size w wx ∧ Box wx w.heap.size [.int .i64 a, .int .i64 b, .int .i64 c, .int .i64 d])
  case first =>
    go_region_held3 (fun w' => w'.cell? ⟨w.heap.size, 0, none⟩ = some (.int .i64 a) ∧ w'.cell? ⟨w.heap.size, 1, none⟩ = some (.int .i64 b) ∧ w'.cell? ⟨w.heap.size, 2, none⟩ = some (.int .i64 c) ∧ w'.cell? ⟨w.heap.size, 3, none⟩ = some (.int .i64 d)) (go_keep)
      (first
        | (go_at_call 26; refine (l01Trace_any _ _ _ _ ea ed _).mono ?_; rintro e w2 ⟨rfl, hb2⟩; have T := (by first | exact own_trans T hb2 | exact own_trans (own_drew T) hb2 : Below w.heap.size w w2); have BA := Box.below (by first | exact BA | exact Box.drew BA) hb2; obtain ⟨_, _, _, _, _, _, _, _, _⟩ := BA.four))
    all_goals go_wp2_with fail
    all_goals go_meet
    all_goals exact ⟨by first | rfl | (congr 1; omega), T, BA⟩
  case rest =>
    obtain ⟨rfl, T, BA⟩ := hcut
    obtain ⟨_, _, _, _, _, _, _, _, _⟩ := BA.four
    go_wp2
    go_ret
    exact ⟨rfl, T⟩

set_option maxHeartbeats 1000000 in
theorem l01Kind_b3 (a b c d : Int) (ea : Ent a) (ed : Ent d) (hb : b ≠ 0) (ht : 2 < (a + d).natAbs) (w : World) :
    Calls Tryd.prog 14 #[(.agg #[.int .i64 a, .int .i64 b, .int .i64 c, .int .i64 d])] w fun e w' => e = .returned (.int .i64 3) ∧ Below w.heap.size w w' := by
  have hv : max (a + d) (-(a + d)) = ((a + d).natAbs : Int) := by omega
  have HV := Lib.hid hv
  have hbd : -2000000000 ≤ a + d ∧ a + d ≤ 2000000000 := by unfold Ent at ea ed; omega
  obtain ⟨_, _⟩ := hbd
  have hb' : (b == 0) = false := by simpa using hb
  clear hb
  have ht1 : ¬ ((a + d).natAbs : Int) < 2 := by omega
  have ht2 : (((a + d).natAbs : Int) == 2) = false := by rw [beq_eq_false_iff_ne]; omega
  clear ht
  have hw : IntKind.i64.wrap (-(a + d)) = -(a + d) := IntWalk.i64_in _ (by omega)
  clear hv
  go_enter Tryd.func14, Tryd.ntmps14
  go_upto_region 1 with fail
  have BA : Box (w.alloc (.cells #[.int .i64 a, .int .i64 b, .int .i64 c, .int .i64 d] 27)) w.heap.size [.int .i64 a, .int .i64 b, .int .i64 c, .int .i64 d] := Box.new _ _ _
  have T : Below w.heap.size w (w.alloc (.cells #[.int .i64 a, .int .i64 b, .int .i64 c, .int .i64 d] 27)) := own_alloc (own_refl _) _
  go_cut [3] (fun s wx => s = (.int .i64 (((a + d).natAbs : Int))) ∧ Below w.heap.size w wx ∧ Box wx w.heap.size [.int .i64 a, .int .i64 b, .int .i64 c, .int .i64 d])
  case first =>
    go_region_held3 (fun w' => w'.cell? ⟨w.heap.size, 0, none⟩ = some (.int .i64 a) ∧ w'.cell? ⟨w.heap.size, 1, none⟩ = some (.int .i64 b) ∧ w'.cell? ⟨w.heap.size, 2, none⟩ = some (.int .i64 c) ∧ w'.cell? ⟨w.heap.size, 3, none⟩ = some (.int .i64 d)) (go_keep)
      (first
        | (go_at_call 26; refine (l01Trace_any _ _ _ _ ea ed _).mono ?_; rintro e w2 ⟨rfl, hb2⟩; have T := (by first | exact own_trans T hb2 | exact own_trans (own_drew T) hb2 : Below w.heap.size w w2); have BA := Box.below (by first | exact BA | exact Box.drew BA) hb2; obtain ⟨_, _, _, _, _, _, _, _, _⟩ := BA.four))
    all_goals go_wp2_with fail
    all_goals go_meet
    all_goals exact ⟨by first | rfl | (congr 1; omega), T, BA⟩
  case rest =>
    obtain ⟨rfl, T, BA⟩ := hcut
    obtain ⟨_, _, _, _, _, _, _, _, _⟩ := BA.four
    go_wp2
    go_ret
    exact ⟨rfl, T⟩

set_option maxHeartbeats 1000000 in
theorem l01Kind_c3 (a b c d : Int) (ea : Ent a) (ed : Ent d) (hb : b = 0) (hc : c ≠ 0) (ht : 2 < (a + d).natAbs) (w : World) :
    Calls Tryd.prog 14 #[(.agg #[.int .i64 a, .int .i64 b, .int .i64 c, .int .i64 d])] w fun e w' => e = .returned (.int .i64 3) ∧ Below w.heap.size w w' := by
  have hv : max (a + d) (-(a + d)) = ((a + d).natAbs : Int) := by omega
  have HV := Lib.hid hv
  have hbd : -2000000000 ≤ a + d ∧ a + d ≤ 2000000000 := by unfold Ent at ea ed; omega
  obtain ⟨_, _⟩ := hbd
  have hc' : (c == 0) = false := by simpa using hc
  have hb' : (b == 0) = true := by simpa using hb
  clear hb
  clear hc
  have ht1 : ¬ ((a + d).natAbs : Int) < 2 := by omega
  have ht2 : (((a + d).natAbs : Int) == 2) = false := by rw [beq_eq_false_iff_ne]; omega
  clear ht
  have hw : IntKind.i64.wrap (-(a + d)) = -(a + d) := IntWalk.i64_in _ (by omega)
  clear hv
  go_enter Tryd.func14, Tryd.ntmps14
  go_upto_region 1 with fail
  have BA : Box (w.alloc (.cells #[.int .i64 a, .int .i64 b, .int .i64 c, .int .i64 d] 27)) w.heap.size [.int .i64 a, .int .i64 b, .int .i64 c, .int .i64 d] := Box.new _ _ _
  have T : Below w.heap.size w (w.alloc (.cells #[.int .i64 a, .int .i64 b, .int .i64 c, .int .i64 d] 27)) := own_alloc (own_refl _) _
  go_cut [3] (fun s wx => s = (.int .i64 (((a + d).natAbs : Int))) ∧ Below w.heap.size w wx ∧ Box wx w.heap.size [.int .i64 a, .int .i64 b, .int .i64 c, .int .i64 d])
  case first =>
    go_region_held3 (fun w' => w'.cell? ⟨w.heap.size, 0, none⟩ = some (.int .i64 a) ∧ w'.cell? ⟨w.heap.size, 1, none⟩ = some (.int .i64 b) ∧ w'.cell? ⟨w.heap.size, 2, none⟩ = some (.int .i64 c) ∧ w'.cell? ⟨w.heap.size, 3, none⟩ = some (.int .i64 d)) (go_keep)
      (first
        | (go_at_call 26; refine (l01Trace_any _ _ _ _ ea ed _).mono ?_; rintro e w2 ⟨rfl, hb2⟩; have T := (by first | exact own_trans T hb2 | exact own_trans (own_drew T) hb2 : Below w.heap.size w w2); have BA := Box.below (by first | exact BA | exact Box.drew BA) hb2; obtain ⟨_, _, _, _, _, _, _, _, _⟩ := BA.four))
    all_goals go_wp2_with fail
    all_goals go_meet
    all_goals exact ⟨by first | rfl | (congr 1; omega), T, BA⟩
  case rest =>
    obtain ⟨rfl, T, BA⟩ := hcut
    obtain ⟨_, _, _, _, _, _, _, _, _⟩ := BA.four
    go_wp2
    go_ret
    exact ⟨rfl, T⟩

theorem l01Kind_any (a b c d : Int) (ea : Ent a) (ed : Ent d) (w : World) :
    Calls Tryd.prog 14 #[(.agg #[.int .i64 a, .int .i64 b, .int .i64 c, .int .i64 d])] w fun e w' => e = .returned (.int .i64 (kind a b c d)) ∧ Below w.heap.size w w' := by
  unfold kind
  by_cases hb : b = 0
  · by_cases hc : c = 0
    · rw [if_pos ⟨hb, hc⟩]
      exact l01Kind_zero a b c d ea ed hb hc w
    · rw [if_neg (fun h => hc h.2)]
      rcases (show (a + d).natAbs < 2 ∨ (a + d).natAbs = 2 ∨ 2 < (a + d).natAbs by omega) with ht | ht | ht
      · rw [if_pos ht]; exact l01Kind_c1 a b c d ea ed hb hc ht w
      · rw [if_neg (by omega), if_pos ht]; exact l01Kind_c2 a b c d ea ed hb hc ht w
      · rw [if_neg (by omega), if_neg (by omega)]; exact l01Kind_c3 a b c d ea ed hb hc ht w
  · rw [if_neg (fun h => hb h.1)]
    rcases (show (a + d).natAbs < 2 ∨ (a + d).natAbs = 2 ∨ 2 < (a + d).natAbs by omega) with ht | ht | ht
    · rw [if_pos ht]; exact l01Kind_b1 a b c d ea ed hb ht w
    · rw [if_neg (by omega), if_pos ht]; exact l01Kind_b2 a b c d ea ed hb ht w
    · rw [if_neg (by omega), if_neg (by omega)]; exact l01Kind_b3 a b c d ea ed hb ht w
end Go.Proofs.YtfpgdbdgglbleaaDoor
