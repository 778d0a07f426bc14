/- impl.mustBeFractions: contracts for one and for two fractions. -/
import Derived.Test.YtpglcpolbhlekaaDoorIsF
import Derived.Test.YtpglcpolbhlekaaDoorErr
namespace Go.Proofs.YtpglcpolbhlekaaDoor
open Go.ChangeShapes Go.WideShapes Go.ChangeAt Go.RowKit

theorem isF_is (r : Bool) (p q : Int) (h : isF p q = r) (w : World) : Calls Tryd.prog 34 #[(.agg #[.int .i64 p, .int .i64 q])] w fun e w' => e = .returned (.bool r) ∧ Below w.heap.size w w' := h ▸ implIsF_any p q w

/-- The door's panic. -/
def errPanic (a : Addr) : Ending := .panicked [{ v := .iface 160 (.pointer (some a)), recovered := false }]

set_option maxHeartbeats 1000000 in
theorem must1_yes (g : Nat) (p q : Int) (h : isF p q = true) (w : World) (hB : Box w g [.int .i64 p, .int .i64 q]) :
    Calls Tryd.prog 69 #[.slice (some ⟨g, 0, none⟩) 1 1] w fun e w' => e = .returned (.tuple #[]) ∧ Below w.heap.size w w' := by
  have H := Lib.hid h
  clear h
  obtain ⟨_, _, _, _, _⟩ := hB.two
  go_enter Tryd.func69, Tryd.ntmps69
  go_wp2
  refine wp_loop_rounds 2 ?_
  rw [rounds_succ]
  go_wp2_with fail
  refine (isF_is true _ _ H.out _).mono ?_
  rintro e w1 ⟨rfl, hb1⟩
  go_wp2
  rw [rounds_succ]
  go_wp2
  go_end0
  exact ⟨rfl, by repeat (first | with_reducible exact own_refl _ | with_reducible assumption | with_reducible apply own_alloc | with_reducible apply own_drewN | with_reducible apply own_drew | ((with_reducible refine own_setCell ?_ ?_ _); rotate_left; focus (first | (simp; done) | (simp; omega))) | (with_reducible (refine own_trans ?_ (by assumption))))⟩
set_option maxHeartbeats 1000000 in
theorem must1_no (g : Nat) (p q : Int) (h : isF p q = false) (a : Addr) (w : World) (hB : Box w g [.int .i64 p, .int .i64 q]) (hE : Er w a) :
    Calls Tryd.prog 69 #[.slice (some ⟨g, 0, none⟩) 1 1] w fun e w' => e = errPanic a ∧ Below w.heap.size w w' := by
  have H := Lib.hid h
  clear h
  obtain ⟨_, _, _, _, _⟩ := hB.two
  go_enter Tryd.func69, Tryd.ntmps69
  go_wp2
  refine wp_loop_rounds 2 ?_
  rw [rounds_succ]
  go_wp2_with fail
  refine (isF_is false _ _ H.out _).mono ?_
  rintro e w1 ⟨rfl, hb1⟩
  have T : Below w.heap.size w w1 := by repeat (first | with_reducible exact own_refl _ | with_reducible assumption | with_reducible apply own_alloc | with_reducible apply own_drewN | with_reducible apply own_drew | ((with_reducible refine own_setCell ?_ ?_ _); rotate_left; focus (first | (simp; done) | (simp; omega))) | (with_reducible (refine own_trans ?_ (by assumption))))
  have hE1 := hE.below T
  unfold Er at hE1
  go_wp2
  exact ⟨rfl, rfl, by repeat (first | with_reducible exact own_refl _ | with_reducible assumption | with_reducible apply own_alloc | with_reducible apply own_drewN | with_reducible apply own_drew | ((with_reducible refine own_setCell ?_ ?_ _); rotate_left; focus (first | (simp; done) | (simp; omega))) | (with_reducible (refine own_trans ?_ (by assumption))))⟩
set_option maxHeartbeats 1000000 in
theorem must2_yes (g : Nat) (p q s t : Int) (h1 : isF p q = true) (h2 : isF s t = true) (w : World) (hB : Box w g [.int .i64 p, .int .i64 q, .int .i64 s, .int .i64 t]) :
    Calls Tryd.prog 69 #[.slice (some ⟨g, 0, none⟩) 2 2] w fun e w' => e = .returned (.tuple #[]) ∧ Below w.heap.size w w' := by
  have H1 := Lib.hid h1
  have H2 := Lib.hid h2
  clear h1 h2
  obtain ⟨_, _, _, _, _, _, _, _, _⟩ := hB.four
  go_enter Tryd.func69, Tryd.ntmps69
  go_wp2
  refine wp_loop_rounds 3 ?_
  rw [rounds_succ]
  go_wp2_with fail
  refine (isF_is true _ _ H1.out _).mono ?_
  rintro e w1 ⟨rfl, hb1⟩
  have T : Below w.heap.size w w1 := by repeat (first | with_reducible exact own_refl _ | with_reducible assumption | with_reducible apply own_alloc | with_reducible apply own_drewN | with_reducible apply own_drew | ((with_reducible refine own_setCell ?_ ?_ _); rotate_left; focus (first | (simp; done) | (simp; omega))) | (with_reducible (refine own_trans ?_ (by assumption))))
  obtain ⟨_, _, _, _, _, _, _, _, _⟩ := (hB.low T hB.1).four
  go_wp2
  rw [rounds_succ]
  go_wp2_with fail
  refine (isF_is true _ _ H2.out _).mono ?_
  rintro e w2 ⟨rfl, hb2⟩
  go_wp2
  rw [rounds_succ]
  go_wp2
  go_end0
  exact ⟨rfl, by repeat (first | with_reducible exact own_refl _ | with_reducible assumption | with_reducible apply own_alloc | with_reducible apply own_drewN | with_reducible apply own_drew | ((with_reducible refine own_setCell ?_ ?_ _); rotate_left; focus (first | (simp; done) | (simp; omega))) | (with_reducible (refine own_trans ?_ (by assumption))))⟩
set_option maxHeartbeats 1000000 in
theorem must2_first (g : Nat) (p q s t : Int) (h1 : isF p q = false) (a : Addr) (w : World) (hB : Box w g [.int .i64 p, .int .i64 q, .int .i64 s, .int .i64 t]) (hE : Er w a) :
    Calls Tryd.prog 69 #[.slice (some ⟨g, 0, none⟩) 2 2] w fun e w' => e = errPanic a ∧ Below w.heap.size w w' := by
  have H1 := Lib.hid h1
  clear h1
  obtain ⟨_, _, _, _, _, _, _, _, _⟩ := hB.four
  go_enter Tryd.func69, Tryd.ntmps69
  go_wp2
  refine wp_loop_rounds 3 ?_
  rw [rounds_succ]
  go_wp2_with fail
  refine (isF_is false _ _ H1.out _).mono ?_
  rintro e w1 ⟨rfl, hb1⟩
  have T2 : Below w.heap.size w w1 := by repeat (first | with_reducible exact own_refl _ | with_reducible assumption | with_reducible apply own_alloc | with_reducible apply own_drewN | with_reducible apply own_drew | ((with_reducible refine own_setCell ?_ ?_ _); rotate_left; focus (first | (simp; done) | (simp; omega))) | (with_reducible (refine own_trans ?_ (by assumption))))
  have hE1 := hE.below T2
  unfold Er at hE1
  go_wp2
  exact ⟨rfl, rfl, by repeat (first | with_reducible exact own_refl _ | with_reducible assumption | with_reducible apply own_alloc | with_reducible apply own_drewN | with_reducible apply own_drew | ((with_reducible refine own_setCell ?_ ?_ _); rotate_left; focus (first | (simp; done) | (simp; omega))) | (with_reducible (refine own_trans ?_ (by assumption))))⟩
set_option maxHeartbeats 1000000 in
theorem must2_second (g : Nat) (p q s t : Int) (h1 : isF p q = true) (h2 : isF s t = false) (a : Addr) (w : World) (hB : Box w g [.int .i64 p, .int .i64 q, .int .i64 s, .int .i64 t]) (hE : Er w a) :
    Calls Tryd.prog 69 #[.slice (some ⟨g, 0, none⟩) 2 2] w fun e w' => e = errPanic a ∧ Below w.heap.size w w' := by
  have H1 := Lib.hid h1
  have H2 := Lib.hid h2
  clear h1 h2
  obtain ⟨_, _, _, _, _, _, _, _, _⟩ := hB.four
  go_enter Tryd.func69, Tryd.ntmps69
  go_wp2
  refine wp_loop_rounds 3 ?_
  rw [rounds_succ]
  go_wp2_with fail
  refine (isF_is true _ _ H1.out _).mono ?_
  rintro e w1 ⟨rfl, hb1⟩
  have T : Below w.heap.size w w1 := by repeat (first | with_reducible exact own_refl _ | with_reducible assumption | with_reducible apply own_alloc | with_reducible apply own_drewN | with_reducible apply own_drew | ((with_reducible refine own_setCell ?_ ?_ _); rotate_left; focus (first | (simp; done) | (simp; omega))) | (with_reducible (refine own_trans ?_ (by assumption))))
  obtain ⟨_, _, _, _, _, _, _, _, _⟩ := (hB.low T hB.1).four
  go_wp2
  rw [rounds_succ]
  go_wp2_with fail
  refine (isF_is false _ _ H2.out _).mono ?_
  rintro e w2 ⟨rfl, hb2⟩
  have T2 : Below w.heap.size w w2 := by repeat (first | with_reducible exact own_refl _ | with_reducible assumption | with_reducible apply own_alloc | with_reducible apply own_drewN | with_reducible apply own_drew | ((with_reducible refine own_setCell ?_ ?_ _); rotate_left; focus (first | (simp; done) | (simp; omega))) | (with_reducible (refine own_trans ?_ (by assumption))))
  have hE1 := hE.below T2
  unfold Er at hE1
  go_wp2
  exact ⟨rfl, rfl, by repeat (first | with_reducible exact own_refl _ | with_reducible assumption | with_reducible apply own_alloc | with_reducible apply own_drewN | with_reducible apply own_drew | ((with_reducible refine own_setCell ?_ ?_ _); rotate_left; focus (first | (simp; done) | (simp; omega))) | (with_reducible (refine own_trans ?_ (by assumption))))⟩
theorem must2_no (g : Nat) (p q s t : Int) (h : ¬ (isF p q = true ∧ isF s t = true)) (a : Addr) (w : World) (hB : Box w g [.int .i64 p, .int .i64 q, .int .i64 s, .int .i64 t]) (hE : Er w a) :
    Calls Tryd.prog 69 #[.slice (some ⟨g, 0, none⟩) 2 2] w fun e w' => e = errPanic a ∧ Below w.heap.size w w' := by
  rcases h1 : isF p q with _ | _
  · exact must2_first g p q s t h1 a w hB hE
  · rcases h2 : isF s t with _ | _
    · exact must2_second g p q s t h1 h2 a w hB hE
    · exact absurd ⟨h1, h2⟩ h
end Go.Proofs.YtpglcpolbhlekaaDoor
