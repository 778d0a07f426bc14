/- NeighbourOf: contracts of both sides. -/
import Derived.Test.YtafmfdhogoheaaaDoorNbT
namespace Go.Proofs.YtafmfdhogoheaaaDoor
open Go.ChangeShapes Go.WideShapes Go.ChangeAt Go.RowKit

/-- What NeighbourOf returns. -/
def RetT (p q r k : Int) (w : World) (e : Ending) (w' : World) : Prop := e = .returned (.tuple #[(.agg #[.int .i64 p, .int .i64 q, .int .i64 r]), (.int .i64 k)]) ∧ Below w.heap.size w w'
theorem implIsT_is (b0 : Bool) (a b c : Int) (h : isT a b c = b0) (w : World) :
    Calls Tryd.prog 25 #[(.agg #[.int .i64 a, .int .i64 b, .int .i64 c])] w fun e w' => e = .returned (.bool b0) ∧ Below w.heap.size w w' := h ▸ implIsT_any a b c w
theorem specIsT_is (b0 : Bool) (a b c : Int) (h : isT a b c = b0) (w : World) :
    Calls Tryd.prog 63 #[(.agg #[.int .i64 a, .int .i64 b, .int .i64 c])] w fun e w' => e = .returned (.bool b0) ∧ Below w.heap.size w w' := h ▸ specIsT_any a b c w
theorem isT_ent {a b c : Int} (h : isT a b c = true) : Ent a ∧ Ent b ∧ Ent c := by
  obtain ⟨_, _, _, _, _⟩ := of_decide_eq_true h
  refine ⟨?_, ?_, ?_⟩
  all_goals constructor <;> omega

set_option maxHeartbeats 1000000 in
theorem implNbo_inv (a b c i : Int) (h : isT a b c = false) (w : World) : Calls Tryd.prog 23 #[(.agg #[.int .i64 a, .int .i64 b, .int .i64 c]), (.int .i64 i)] w (RetT 0 0 0 1 w) := by
  have H := Lib.hid h
  clear h
  go_enter Tryd.func23, Tryd.ntmps23
  go_wp2_with fail
  refine (implIsT_is false _ _ _ H.out _).mono ?_
  rintro e w1 ⟨rfl, hb1⟩
  have R1 : Box w1 (w.heap.size + 1) [.int .i64 0, .int .i64 0, .int .i64 0] := Box.below (Box.newAt (by simp) _ _) hb1
  obtain ⟨_, _, _, _, _, _, _⟩ := R1.three
  go_wp2
  have Z := R1.put3 (.int .i64 0) (.int .i64 0) (.int .i64 0)
  obtain ⟨_, d0, d1, d2, _, _, _⟩ := Z.three
  exact bodyPost_ret (v := .tuple #[(.agg #[.int .i64 0, .int .i64 0, .int .i64 0]), (.int .i64 1)]) (by simp [results, Tryd.results23, go_sem, d0, d1, d2]) rfl ⟨rfl, by repeat (first | with_reducible exact own_refl _ | with_reducible assumption | with_reducible apply own_alloc | with_reducible apply own_drewN | with_reducible apply own_drew | ((with_reducible refine own_setCell ?_ ?_ _); rotate_left; focus (first | (simp; done) | (simp; omega))) | (with_reducible (refine own_trans ?_ (by assumption))))⟩

set_option maxHeartbeats 1000000 in
theorem implNbo_rng (a b c i : Int) (h : isT a b c = true) (hi : i < 0 ∨ 3 ≤ i) (w : World) : Calls Tryd.prog 23 #[(.agg #[.int .i64 a, .int .i64 b, .int .i64 c]), (.int .i64 i)] w (RetT 0 0 0 2 w) := by
  have H := Lib.hid h
  clear h
  rcases hi with hi | hi
  all_goals
    try (have hi' : ¬ i < 0 := by omega)
    go_enter Tryd.func23, Tryd.ntmps23
    go_wp2_with fail
    refine (implIsT_is true _ _ _ H.out _).mono ?_
    rintro e w1 ⟨rfl, hb1⟩
    have R1 : Box w1 (w.heap.size + 1) [.int .i64 0, .int .i64 0, .int .i64 0] := Box.below (Box.newAt (by simp) _ _) hb1
    obtain ⟨_, _, _, _, _, _, _⟩ := R1.three
    go_wp2
    have Z := R1.put3 (.int .i64 0) (.int .i64 0) (.int .i64 0)
    obtain ⟨_, d0, d1, d2, _, _, _⟩ := Z.three
    exact bodyPost_ret (v := .tuple #[(.agg #[.int .i64 0, .int .i64 0, .int .i64 0]), (.int .i64 2)]) (by simp [results, Tryd.results23, go_sem, d0, d1, d2]) rfl ⟨rfl, by repeat (first | with_reducible exact own_refl _ | with_reducible assumption | with_reducible apply own_alloc | with_reducible apply own_drewN | with_reducible apply own_drew | ((with_reducible refine own_setCell ?_ ?_ _); rotate_left; focus (first | (simp; done) | (simp; omega))) | (with_reducible (refine own_trans ?_ (by assumption))))⟩

set_option maxHeartbeats 1000000 in
theorem implNbo_yes0 (a b c v p q r : Int) (h : isT a b c = true) (hv : 3 * b * c - a = v) (hp : lo3 v b c = p) (hq : mi3 v b c = q) (hr : hi3 v b c = r) (hl : ¬ 1000000000 < r) (w : World) : Calls Tryd.prog 23 #[(.agg #[.int .i64 a, .int .i64 b, .int .i64 c]), (.int .i64 0)] w (RetT p q r 0 w) := by
  obtain ⟨ea, eb, ec⟩ := isT_ent h
  have HC := Lib.hid (fun w => replaced_0 a b c v p q r ea eb ec hv hp hq hr w)
  have H := Lib.hid h
  clear h hv hp hq hr ea eb ec
  go_enter Tryd.func23, Tryd.ntmps23
  go_wp2_with fail
  refine (implIsT_is true _ _ _ H.out _).mono ?_
  rintro e w1 ⟨rfl, hb1⟩
  have Bw1_0 : Box w1 (w.heap.size) [.int .i64 a, .int .i64 b, .int .i64 c] := by refine Box.below ?_ hb1; repeat (first | with_reducible assumption | with_reducible exact Box.new _ _ _ | (with_reducible refine Box.newAt ?_ _ _; (simp; done)) | with_reducible apply Box.alloc | with_reducible apply Box.drewN | with_reducible apply Box.drew)
  obtain ⟨_, _, _, _, _, _, _⟩ := Bw1_0.three
  have Bw1_1 : Box w1 (w.heap.size + 1) [.int .i64 0, .int .i64 0, .int .i64 0] := by refine Box.below ?_ hb1; repeat (first | with_reducible assumption | with_reducible exact Box.new _ _ _ | (with_reducible refine Box.newAt ?_ _ _; (simp; done)) | with_reducible apply Box.alloc | with_reducible apply Box.drewN | with_reducible apply Box.drew)
  obtain ⟨_, _, _, _, _, _, _⟩ := Bw1_1.three
  have T1 : Below w.heap.size w w1 := by repeat (first | with_reducible exact own_refl _ | with_reducible assumption | with_reducible apply own_alloc | with_reducible apply own_drewN | with_reducible apply own_drew | ((with_reducible refine own_setCell ?_ ?_ _); rotate_left; focus (first | (simp; done) | (simp; omega))) | (with_reducible (refine own_trans ?_ (by assumption))))
  go_wp2_with fail
  refine (HC.out _).mono ?_
  rintro e w3 ⟨rfl, hb3⟩
  have T3 := own_trans T1 hb3
  have R3 := Bw1_1.below hb3
  have Q3 : Box (w3.alloc (.cells #[.int .i64 p, .int .i64 q, .int .i64 r] 36)) w3.heap.size [.int .i64 p, .int .i64 q, .int .i64 r] := Box.new _ _ _
  have R3 := R3.alloc (.cells #[.int .i64 p, .int .i64 q, .int .i64 r] 36)
  go_wp2_with fail
  refine (greatest_any _ _ _ _).mono ?_
  rintro e w4 ⟨rfl, hb4⟩
  have Q4 := Q3.below hb4
  have R4 := R3.below hb4
  have T4 := own_trans (own_alloc T3 _) hb4
  obtain ⟨_, _, _, _, _, _, _⟩ := Q4.three
  obtain ⟨_, _, _, _, _, _, _⟩ := R4.three
  go_wp2
  have Z := R4.put3 (.int .i64 p) (.int .i64 q) (.int .i64 r)
  obtain ⟨_, d0, d1, d2, _, _, _⟩ := Z.three
  exact bodyPost_ret (v := .tuple #[(.agg #[.int .i64 p, .int .i64 q, .int .i64 r]), (.int .i64 0)]) (by simp [results, Tryd.results23, go_sem, d0, d1, d2]) rfl ⟨rfl, by repeat (first | with_reducible exact own_refl _ | with_reducible assumption | with_reducible apply own_alloc | with_reducible apply own_drewN | with_reducible apply own_drew | ((with_reducible refine own_setCell ?_ ?_ _); rotate_left; focus (first | (simp; done) | (simp; omega))) | (with_reducible (refine own_trans ?_ (by assumption))))⟩

set_option maxHeartbeats 1000000 in
theorem implNbo_lim0 (a b c v p q r : Int) (h : isT a b c = true) (hv : 3 * b * c - a = v) (hp : lo3 v b c = p) (hq : mi3 v b c = q) (hr : hi3 v b c = r) (hl : 1000000000 < r) (w : World) : Calls Tryd.prog 23 #[(.agg #[.int .i64 a, .int .i64 b, .int .i64 c]), (.int .i64 0)] w (RetT 0 0 0 3 w) := by
  obtain ⟨ea, eb, ec⟩ := isT_ent h
  have HC := Lib.hid (fun w => replaced_0 a b c v p q r ea eb ec hv hp hq hr w)
  have H := Lib.hid h
  clear h hv hp hq hr ea eb ec
  go_enter Tryd.func23, Tryd.ntmps23
  go_wp2_with fail
  refine (implIsT_is true _ _ _ H.out _).mono ?_
  rintro e w1 ⟨rfl, hb1⟩
  have Bw1_0 : Box w1 (w.heap.size) [.int .i64 a, .int .i64 b, .int .i64 c] := by refine Box.below ?_ hb1; repeat (first | with_reducible assumption | with_reducible exact Box.new _ _ _ | (with_reducible refine Box.newAt ?_ _ _; (simp; done)) | with_reducible apply Box.alloc | with_reducible apply Box.drewN | with_reducible apply Box.drew)
  obtain ⟨_, _, _, _, _, _, _⟩ := Bw1_0.three
  have Bw1_1 : Box w1 (w.heap.size + 1) [.int .i64 0, .int .i64 0, .int .i64 0] := by refine Box.below ?_ hb1; repeat (first | with_reducible assumption | with_reducible exact Box.new _ _ _ | (with_reducible refine Box.newAt ?_ _ _; (simp; done)) | with_reducible apply Box.alloc | with_reducible apply Box.drewN | with_reducible apply Box.drew)
  obtain ⟨_, _, _, _, _, _, _⟩ := Bw1_1.three
  have T1 : Below w.heap.size w w1 := by repeat (first | with_reducible exact own_refl _ | with_reducible assumption | with_reducible apply own_alloc | with_reducible apply own_drewN | with_reducible apply own_drew | ((with_reducible refine own_setCell ?_ ?_ _); rotate_left; focus (first | (simp; done) | (simp; omega))) | (with_reducible (refine own_trans ?_ (by assumption))))
  go_wp2_with fail
  refine (HC.out _).mono ?_
  rintro e w3 ⟨rfl, hb3⟩
  have T3 := own_trans T1 hb3
  have R3 := Bw1_1.below hb3
  have Q3 : Box (w3.alloc (.cells #[.int .i64 p, .int .i64 q, .int .i64 r] 36)) w3.heap.size [.int .i64 p, .int .i64 q, .int .i64 r] := Box.new _ _ _
  have R3 := R3.alloc (.cells #[.int .i64 p, .int .i64 q, .int .i64 r] 36)
  go_wp2_with fail
  refine (greatest_any _ _ _ _).mono ?_
  rintro e w4 ⟨rfl, hb4⟩
  have Q4 := Q3.below hb4
  have R4 := R3.below hb4
  have T4 := own_trans (own_alloc T3 _) hb4
  obtain ⟨_, _, _, _, _, _, _⟩ := Q4.three
  obtain ⟨_, _, _, _, _, _, _⟩ := R4.three
  go_wp2
  have Z := R4.put3 (.int .i64 0) (.int .i64 0) (.int .i64 0)
  obtain ⟨_, d0, d1, d2, _, _, _⟩ := Z.three
  exact bodyPost_ret (v := .tuple #[(.agg #[.int .i64 0, .int .i64 0, .int .i64 0]), (.int .i64 3)]) (by simp [results, Tryd.results23, go_sem, d0, d1, d2]) rfl ⟨rfl, by repeat (first | with_reducible exact own_refl _ | with_reducible assumption | with_reducible apply own_alloc | with_reducible apply own_drewN | with_reducible apply own_drew | ((with_reducible refine own_setCell ?_ ?_ _); rotate_left; focus (first | (simp; done) | (simp; omega))) | (with_reducible (refine own_trans ?_ (by assumption))))⟩

set_option maxHeartbeats 1000000 in
theorem implNbo_yes1 (a b c v p q r : Int) (h : isT a b c = true) (hv : 3 * c * a - b = v) (hp : lo3 a v c = p) (hq : mi3 a v c = q) (hr : hi3 a v c = r) (hl : ¬ 1000000000 < r) (w : World) : Calls Tryd.prog 23 #[(.agg #[.int .i64 a, .int .i64 b, .int .i64 c]), (.int .i64 1)] w (RetT p q r 0 w) := by
  obtain ⟨ea, eb, ec⟩ := isT_ent h
  have HC := Lib.hid (fun w => replaced_1 a b c v p q r ea eb ec hv hp hq hr w)
  have H := Lib.hid h
  clear h hv hp hq hr ea eb ec
  go_enter Tryd.func23, Tryd.ntmps23
  go_wp2_with fail
  refine (implIsT_is true _ _ _ H.out _).mono ?_
  rintro e w1 ⟨rfl, hb1⟩
  have Bw1_0 : Box w1 (w.heap.size) [.int .i64 a, .int .i64 b, .int .i64 c] := by refine Box.below ?_ hb1; repeat (first | with_reducible assumption | with_reducible exact Box.new _ _ _ | (with_reducible refine Box.newAt ?_ _ _; (simp; done)) | with_reducible apply Box.alloc | with_reducible apply Box.drewN | with_reducible apply Box.drew)
  obtain ⟨_, _, _, _, _, _, _⟩ := Bw1_0.three
  have Bw1_1 : Box w1 (w.heap.size + 1) [.int .i64 0, .int .i64 0, .int .i64 0] := by refine Box.below ?_ hb1; repeat (first | with_reducible assumption | with_reducible exact Box.new _ _ _ | (with_reducible refine Box.newAt ?_ _ _; (simp; done)) | with_reducible apply Box.alloc | with_reducible apply Box.drewN | with_reducible apply Box.drew)
  obtain ⟨_, _, _, _, _, _, _⟩ := Bw1_1.three
  have T1 : Below w.heap.size w w1 := by repeat (first | with_reducible exact own_refl _ | with_reducible assumption | with_reducible apply own_alloc | with_reducible apply own_drewN | with_reducible apply own_drew | ((with_reducible refine own_setCell ?_ ?_ _); rotate_left; focus (first | (simp; done) | (simp; omega))) | (with_reducible (refine own_trans ?_ (by assumption))))
  go_wp2_with fail
  refine (HC.out _).mono ?_
  rintro e w3 ⟨rfl, hb3⟩
  have T3 := own_trans T1 hb3
  have R3 := Bw1_1.below hb3
  have Q3 : Box (w3.alloc (.cells #[.int .i64 p, .int .i64 q, .int .i64 r] 36)) w3.heap.size [.int .i64 p, .int .i64 q, .int .i64 r] := Box.new _ _ _
  have R3 := R3.alloc (.cells #[.int .i64 p, .int .i64 q, .int .i64 r] 36)
  go_wp2_with fail
  refine (greatest_any _ _ _ _).mono ?_
  rintro e w4 ⟨rfl, hb4⟩
  have Q4 := Q3.below hb4
  have R4 := R3.below hb4
  have T4 := own_trans (own_alloc T3 _) hb4
  obtain ⟨_, _, _, _, _, _, _⟩ := Q4.three
  obtain ⟨_, _, _, _, _, _, _⟩ := R4.three
  go_wp2
  have Z := R4.put3 (.int .i64 p) (.int .i64 q) (.int .i64 r)
  obtain ⟨_, d0, d1, d2, _, _, _⟩ := Z.three
  exact bodyPost_ret (v := .tuple #[(.agg #[.int .i64 p, .int .i64 q, .int .i64 r]), (.int .i64 0)]) (by simp [results, Tryd.results23, go_sem, d0, d1, d2]) rfl ⟨rfl, by repeat (first | with_reducible exact own_refl _ | with_reducible assumption | with_reducible apply own_alloc | with_reducible apply own_drewN | with_reducible apply own_drew | ((with_reducible refine own_setCell ?_ ?_ _); rotate_left; focus (first | (simp; done) | (simp; omega))) | (with_reducible (refine own_trans ?_ (by assumption))))⟩

set_option maxHeartbeats 1000000 in
theorem implNbo_lim1 (a b c v p q r : Int) (h : isT a b c = true) (hv : 3 * c * a - b = v) (hp : lo3 a v c = p) (hq : mi3 a v c = q) (hr : hi3 a v c = r) (hl : 1000000000 < r) (w : World) : Calls Tryd.prog 23 #[(.agg #[.int .i64 a, .int .i64 b, .int .i64 c]), (.int .i64 1)] w (RetT 0 0 0 3 w) := by
  obtain ⟨ea, eb, ec⟩ := isT_ent h
  have HC := Lib.hid (fun w => replaced_1 a b c v p q r ea eb ec hv hp hq hr w)
  have H := Lib.hid h
  clear h hv hp hq hr ea eb ec
  go_enter Tryd.func23, Tryd.ntmps23
  go_wp2_with fail
  refine (implIsT_is true _ _ _ H.out _).mono ?_
  rintro e w1 ⟨rfl, hb1⟩
  have Bw1_0 : Box w1 (w.heap.size) [.int .i64 a, .int .i64 b, .int .i64 c] := by refine Box.below ?_ hb1; repeat (first | with_reducible assumption | with_reducible exact Box.new _ _ _ | (with_reducible refine Box.newAt ?_ _ _; (simp; done)) | with_reducible apply Box.alloc | with_reducible apply Box.drewN | with_reducible apply Box.drew)
  obtain ⟨_, _, _, _, _, _, _⟩ := Bw1_0.three
  have Bw1_1 : Box w1 (w.heap.size + 1) [.int .i64 0, .int .i64 0, .int .i64 0] := by refine Box.below ?_ hb1; repeat (first | with_reducible assumption | with_reducible exact Box.new _ _ _ | (with_reducible refine Box.newAt ?_ _ _; (simp; done)) | with_reducible apply Box.alloc | with_reducible apply Box.drewN | with_reducible apply Box.drew)
  obtain ⟨_, _, _, _, _, _, _⟩ := Bw1_1.three
  have T1 : Below w.heap.size w w1 := by repeat (first | with_reducible exact own_refl _ | with_reducible assumption | with_reducible apply own_alloc | with_reducible apply own_drewN | with_reducible apply own_drew | ((with_reducible refine own_setCell ?_ ?_ _); rotate_left; focus (first | (simp; done) | (simp; omega))) | (with_reducible (refine own_trans ?_ (by assumption))))
  go_wp2_with fail
  refine (HC.out _).mono ?_
  rintro e w3 ⟨rfl, hb3⟩
  have T3 := own_trans T1 hb3
  have R3 := Bw1_1.below hb3
  have Q3 : Box (w3.alloc (.cells #[.int .i64 p, .int .i64 q, .int .i64 r] 36)) w3.heap.size [.int .i64 p, .int .i64 q, .int .i64 r] := Box.new _ _ _
  have R3 := R3.alloc (.cells #[.int .i64 p, .int .i64 q, .int .i64 r] 36)
  go_wp2_with fail
  refine (greatest_any _ _ _ _).mono ?_
  rintro e w4 ⟨rfl, hb4⟩
  have Q4 := Q3.below hb4
  have R4 := R3.below hb4
  have T4 := own_trans (own_alloc T3 _) hb4
  obtain ⟨_, _, _, _, _, _, _⟩ := Q4.three
  obtain ⟨_, _, _, _, _, _, _⟩ := R4.three
  go_wp2
  have Z := R4.put3 (.int .i64 0) (.int .i64 0) (.int .i64 0)
  obtain ⟨_, d0, d1, d2, _, _, _⟩ := Z.three
  exact bodyPost_ret (v := .tuple #[(.agg #[.int .i64 0, .int .i64 0, .int .i64 0]), (.int .i64 3)]) (by simp [results, Tryd.results23, go_sem, d0, d1, d2]) rfl ⟨rfl, by repeat (first | with_reducible exact own_refl _ | with_reducible assumption | with_reducible apply own_alloc | with_reducible apply own_drewN | with_reducible apply own_drew | ((with_reducible refine own_setCell ?_ ?_ _); rotate_left; focus (first | (simp; done) | (simp; omega))) | (with_reducible (refine own_trans ?_ (by assumption))))⟩

set_option maxHeartbeats 1000000 in
theorem implNbo_yes2 (a b c v p q r : Int) (h : isT a b c = true) (hv : 3 * a * b - c = v) (hp : lo3 a b v = p) (hq : mi3 a b v = q) (hr : hi3 a b v = r) (hl : ¬ 1000000000 < r) (w : World) : Calls Tryd.prog 23 #[(.agg #[.int .i64 a, .int .i64 b, .int .i64 c]), (.int .i64 2)] w (RetT p q r 0 w) := by
  obtain ⟨ea, eb, ec⟩ := isT_ent h
  have HC := Lib.hid (fun w => replaced_2 a b c v p q r ea eb ec hv hp hq hr w)
  have H := Lib.hid h
  clear h hv hp hq hr ea eb ec
  go_enter Tryd.func23, Tryd.ntmps23
  go_wp2_with fail
  refine (implIsT_is true _ _ _ H.out _).mono ?_
  rintro e w1 ⟨rfl, hb1⟩
  have Bw1_0 : Box w1 (w.heap.size) [.int .i64 a, .int .i64 b, .int .i64 c] := by refine Box.below ?_ hb1; repeat (first | with_reducible assumption | with_reducible exact Box.new _ _ _ | (with_reducible refine Box.newAt ?_ _ _; (simp; done)) | with_reducible apply Box.alloc | with_reducible apply Box.drewN | with_reducible apply Box.drew)
  obtain ⟨_, _, _, _, _, _, _⟩ := Bw1_0.three
  have Bw1_1 : Box w1 (w.heap.size + 1) [.int .i64 0, .int .i64 0, .int .i64 0] := by refine Box.below ?_ hb1; repeat (first | with_reducible assumption | with_reducible exact Box.new _ _ _ | (with_reducible refine Box.newAt ?_ _ _; (simp; done)) | with_reducible apply Box.alloc | with_reducible apply Box.drewN | with_reducible apply Box.drew)
  obtain ⟨_, _, _, _, _, _, _⟩ := Bw1_1.three
  have T1 : Below w.heap.size w w1 := by repeat (first | with_reducible exact own_refl _ | with_reducible assumption | with_reducible apply own_alloc | with_reducible apply own_drewN | with_reducible apply own_drew | ((with_reducible refine own_setCell ?_ ?_ _); rotate_left; focus (first | (simp; done) | (simp; omega))) | (with_reducible (refine own_trans ?_ (by assumption))))
  go_wp2_with fail
  refine (HC.out _).mono ?_
  rintro e w3 ⟨rfl, hb3⟩
  have T3 := own_trans T1 hb3
  have R3 := Bw1_1.below hb3
  have Q3 : Box (w3.alloc (.cells #[.int .i64 p, .int .i64 q, .int .i64 r] 36)) w3.heap.size [.int .i64 p, .int .i64 q, .int .i64 r] := Box.new _ _ _
  have R3 := R3.alloc (.cells #[.int .i64 p, .int .i64 q, .int .i64 r] 36)
  go_wp2_with fail
  refine (greatest_any _ _ _ _).mono ?_
  rintro e w4 ⟨rfl, hb4⟩
  have Q4 := Q3.below hb4
  have R4 := R3.below hb4
  have T4 := own_trans (own_alloc T3 _) hb4
  obtain ⟨_, _, _, _, _, _, _⟩ := Q4.three
  obtain ⟨_, _, _, _, _, _, _⟩ := R4.three
  go_wp2
  have Z := R4.put3 (.int .i64 p) (.int .i64 q) (.int .i64 r)
  obtain ⟨_, d0, d1, d2, _, _, _⟩ := Z.three
  exact bodyPost_ret (v := .tuple #[(.agg #[.int .i64 p, .int .i64 q, .int .i64 r]), (.int .i64 0)]) (by simp [results, Tryd.results23, go_sem, d0, d1, d2]) rfl ⟨rfl, by repeat (first | with_reducible exact own_refl _ | with_reducible assumption | with_reducible apply own_alloc | with_reducible apply own_drewN | with_reducible apply own_drew | ((with_reducible refine own_setCell ?_ ?_ _); rotate_left; focus (first | (simp; done) | (simp; omega))) | (with_reducible (refine own_trans ?_ (by assumption))))⟩

set_option maxHeartbeats 1000000 in
theorem implNbo_lim2 (a b c v p q r : Int) (h : isT a b c = true) (hv : 3 * a * b - c = v) (hp : lo3 a b v = p) (hq : mi3 a b v = q) (hr : hi3 a b v = r) (hl : 1000000000 < r) (w : World) : Calls Tryd.prog 23 #[(.agg #[.int .i64 a, .int .i64 b, .int .i64 c]), (.int .i64 2)] w (RetT 0 0 0 3 w) := by
  obtain ⟨ea, eb, ec⟩ := isT_ent h
  have HC := Lib.hid (fun w => replaced_2 a b c v p q r ea eb ec hv hp hq hr w)
  have H := Lib.hid h
  clear h hv hp hq hr ea eb ec
  go_enter Tryd.func23, Tryd.ntmps23
  go_wp2_with fail
  refine (implIsT_is true _ _ _ H.out _).mono ?_
  rintro e w1 ⟨rfl, hb1⟩
  have Bw1_0 : Box w1 (w.heap.size) [.int .i64 a, .int .i64 b, .int .i64 c] := by refine Box.below ?_ hb1; repeat (first | with_reducible assumption | with_reducible exact Box.new _ _ _ | (with_reducible refine Box.newAt ?_ _ _; (simp; done)) | with_reducible apply Box.alloc | with_reducible apply Box.drewN | with_reducible apply Box.drew)
  obtain ⟨_, _, _, _, _, _, _⟩ := Bw1_0.three
  have Bw1_1 : Box w1 (w.heap.size + 1) [.int .i64 0, .int .i64 0, .int .i64 0] := by refine Box.below ?_ hb1; repeat (first | with_reducible assumption | with_reducible exact Box.new _ _ _ | (with_reducible refine Box.newAt ?_ _ _; (simp; done)) | with_reducible apply Box.alloc | with_reducible apply Box.drewN | with_reducible apply Box.drew)
  obtain ⟨_, _, _, _, _, _, _⟩ := Bw1_1.three
  have T1 : Below w.heap.size w w1 := by repeat (first | with_reducible exact own_refl _ | with_reducible assumption | with_reducible apply own_alloc | with_reducible apply own_drewN | with_reducible apply own_drew | ((with_reducible refine own_setCell ?_ ?_ _); rotate_left; focus (first | (simp; done) | (simp; omega))) | (with_reducible (refine own_trans ?_ (by assumption))))
  go_wp2_with fail
  refine (HC.out _).mono ?_
  rintro e w3 ⟨rfl, hb3⟩
  have T3 := own_trans T1 hb3
  have R3 := Bw1_1.below hb3
  have Q3 : Box (w3.alloc (.cells #[.int .i64 p, .int .i64 q, .int .i64 r] 36)) w3.heap.size [.int .i64 p, .int .i64 q, .int .i64 r] := Box.new _ _ _
  have R3 := R3.alloc (.cells #[.int .i64 p, .int .i64 q, .int .i64 r] 36)
  go_wp2_with fail
  refine (greatest_any _ _ _ _).mono ?_
  rintro e w4 ⟨rfl, hb4⟩
  have Q4 := Q3.below hb4
  have R4 := R3.below hb4
  have T4 := own_trans (own_alloc T3 _) hb4
  obtain ⟨_, _, _, _, _, _, _⟩ := Q4.three
  obtain ⟨_, _, _, _, _, _, _⟩ := R4.three
  go_wp2
  have Z := R4.put3 (.int .i64 0) (.int .i64 0) (.int .i64 0)
  obtain ⟨_, d0, d1, d2, _, _, _⟩ := Z.three
  exact bodyPost_ret (v := .tuple #[(.agg #[.int .i64 0, .int .i64 0, .int .i64 0]), (.int .i64 3)]) (by simp [results, Tryd.results23, go_sem, d0, d1, d2]) rfl ⟨rfl, by repeat (first | with_reducible exact own_refl _ | with_reducible assumption | with_reducible apply own_alloc | with_reducible apply own_drewN | with_reducible apply own_drew | ((with_reducible refine own_setCell ?_ ?_ _); rotate_left; focus (first | (simp; done) | (simp; omega))) | (with_reducible (refine own_trans ?_ (by assumption))))⟩

set_option maxHeartbeats 1000000 in
theorem specNbo_inv (a b c i : Int) (h : isT a b c = false) (w : World) : Calls Tryd.prog 24 #[(.agg #[.int .i64 a, .int .i64 b, .int .i64 c]), (.int .i64 i)] w (RetT 0 0 0 1 w) := by
  have H := Lib.hid h
  clear h
  go_enter Tryd.func24, Tryd.ntmps24
  go_wp2_with fail
  refine (specIsT_is false _ _ _ H.out _).mono ?_
  rintro e w1 ⟨rfl, hb1⟩
  have R1 : Box w1 (w.heap.size + 1) [.int .i64 0, .int .i64 0, .int .i64 0] := Box.below (Box.newAt (by simp) _ _) hb1
  obtain ⟨_, _, _, _, _, _, _⟩ := R1.three
  go_wp2
  have Z := R1.put3 (.int .i64 0) (.int .i64 0) (.int .i64 0)
  obtain ⟨_, d0, d1, d2, _, _, _⟩ := Z.three
  exact bodyPost_ret (v := .tuple #[(.agg #[.int .i64 0, .int .i64 0, .int .i64 0]), (.int .i64 1)]) (by simp [results, Tryd.results24, go_sem, d0, d1, d2]) rfl ⟨rfl, by repeat (first | with_reducible exact own_refl _ | with_reducible assumption | with_reducible apply own_alloc | with_reducible apply own_drewN | with_reducible apply own_drew | ((with_reducible refine own_setCell ?_ ?_ _); rotate_left; focus (first | (simp; done) | (simp; omega))) | (with_reducible (refine own_trans ?_ (by assumption))))⟩

set_option maxHeartbeats 1000000 in
theorem specNbo_rng (a b c i : Int) (h : isT a b c = true) (hi : i < 0 ∨ 3 ≤ i) (w : World) : Calls Tryd.prog 24 #[(.agg #[.int .i64 a, .int .i64 b, .int .i64 c]), (.int .i64 i)] w (RetT 0 0 0 2 w) := by
  have H := Lib.hid h
  clear h
  have hr : inR i 0 2 = false := by simp [inR]; omega
  have HR := Lib.hid hr
  clear hr hi
  go_enter Tryd.func24, Tryd.ntmps24
  go_wp2_with fail
  refine (specIsT_is true _ _ _ H.out _).mono ?_
  rintro e w1 ⟨rfl, hb1⟩
  have R1 : Box w1 (w.heap.size + 1) [.int .i64 0, .int .i64 0, .int .i64 0] := Box.below (Box.newAt (by simp) _ _) hb1
  obtain ⟨_, _, _, _, _, _, _⟩ := R1.three
  go_wp2_with fail
  refine (l01In_is false _ _ _ HR.out _).mono ?_
  rintro e w2 ⟨rfl, rfl⟩
  go_wp2
  have Z := R1.put3 (.int .i64 0) (.int .i64 0) (.int .i64 0)
  obtain ⟨_, d0, d1, d2, _, _, _⟩ := Z.three
  exact bodyPost_ret (v := .tuple #[(.agg #[.int .i64 0, .int .i64 0, .int .i64 0]), (.int .i64 2)]) (by simp [results, Tryd.results24, go_sem, d0, d1, d2]) rfl ⟨rfl, by repeat (first | with_reducible exact own_refl _ | with_reducible assumption | with_reducible apply own_alloc | with_reducible apply own_drewN | with_reducible apply own_drew | ((with_reducible refine own_setCell ?_ ?_ _); rotate_left; focus (first | (simp; done) | (simp; omega))) | (with_reducible (refine own_trans ?_ (by assumption))))⟩

set_option maxHeartbeats 1000000 in
theorem specNbo_yes0 (a b c v p q r : Int) (h : isT a b c = true) (hv : 3 * b * c - a = v) (hp : lo3 b c v = p) (hq : mi3 b c v = q) (hr : hi3 b c v = r) (hl : ¬ 1000000000 < r) (w : World) : Calls Tryd.prog 24 #[(.agg #[.int .i64 a, .int .i64 b, .int .i64 c]), (.int .i64 0)] w (RetT p q r 0 w) := by
  obtain ⟨ea, eb, ec⟩ := isT_ent h
  have HC := Lib.hid (fun w => l09Nb_0 a b c v p q r ea eb ec hv hp hq hr w)
  have H := Lib.hid h
  clear h hv hp hq hr ea eb ec
  go_enter Tryd.func24, Tryd.ntmps24
  go_wp2_with fail
  refine (specIsT_is true _ _ _ H.out _).mono ?_
  rintro e w1 ⟨rfl, hb1⟩
  have Bw1_0 : Box w1 (w.heap.size) [.int .i64 a, .int .i64 b, .int .i64 c] := by refine Box.below ?_ hb1; repeat (first | with_reducible assumption | with_reducible exact Box.new _ _ _ | (with_reducible refine Box.newAt ?_ _ _; (simp; done)) | with_reducible apply Box.alloc | with_reducible apply Box.drewN | with_reducible apply Box.drew)
  obtain ⟨_, _, _, _, _, _, _⟩ := Bw1_0.three
  have Bw1_1 : Box w1 (w.heap.size + 1) [.int .i64 0, .int .i64 0, .int .i64 0] := by refine Box.below ?_ hb1; repeat (first | with_reducible assumption | with_reducible exact Box.new _ _ _ | (with_reducible refine Box.newAt ?_ _ _; (simp; done)) | with_reducible apply Box.alloc | with_reducible apply Box.drewN | with_reducible apply Box.drew)
  obtain ⟨_, _, _, _, _, _, _⟩ := Bw1_1.three
  have T1 : Below w.heap.size w w1 := by repeat (first | with_reducible exact own_refl _ | with_reducible assumption | with_reducible apply own_alloc | with_reducible apply own_drewN | with_reducible apply own_drew | ((with_reducible refine own_setCell ?_ ?_ _); rotate_left; focus (first | (simp; done) | (simp; omega))) | (with_reducible (refine own_trans ?_ (by assumption))))
  go_wp2_with fail
  refine (l01In_is true _ _ _ (by rfl) _).mono ?_
  rintro e w2 ⟨rfl, rfl⟩
  go_wp2_with fail
  refine (HC.out _).mono ?_
  rintro e w3 ⟨rfl, hb3⟩
  have T3 := own_trans T1 hb3
  have R3 := Bw1_1.below hb3
  have Q3 : Box (w3.alloc (.cells #[.int .i64 p, .int .i64 q, .int .i64 r] 36)) w3.heap.size [.int .i64 p, .int .i64 q, .int .i64 r] := Box.new _ _ _
  have R3 := R3.alloc (.cells #[.int .i64 p, .int .i64 q, .int .i64 r] 36)
  obtain ⟨_, _, _, _, _, _, _⟩ := Q3.three
  obtain ⟨_, _, _, _, _, _, _⟩ := R3.three
  go_wp2
  have Z := R3.put3 (.int .i64 p) (.int .i64 q) (.int .i64 r)
  obtain ⟨_, d0, d1, d2, _, _, _⟩ := Z.three
  exact bodyPost_ret (v := .tuple #[(.agg #[.int .i64 p, .int .i64 q, .int .i64 r]), (.int .i64 0)]) (by simp [results, Tryd.results24, go_sem, d0, d1, d2]) rfl ⟨rfl, by repeat (first | with_reducible exact own_refl _ | with_reducible assumption | with_reducible apply own_alloc | with_reducible apply own_drewN | with_reducible apply own_drew | ((with_reducible refine own_setCell ?_ ?_ _); rotate_left; focus (first | (simp; done) | (simp; omega))) | (with_reducible (refine own_trans ?_ (by assumption))))⟩

set_option maxHeartbeats 1000000 in
theorem specNbo_lim0 (a b c v p q r : Int) (h : isT a b c = true) (hv : 3 * b * c - a = v) (hp : lo3 b c v = p) (hq : mi3 b c v = q) (hr : hi3 b c v = r) (hl : 1000000000 < r) (w : World) : Calls Tryd.prog 24 #[(.agg #[.int .i64 a, .int .i64 b, .int .i64 c]), (.int .i64 0)] w (RetT 0 0 0 3 w) := by
  obtain ⟨ea, eb, ec⟩ := isT_ent h
  have HC := Lib.hid (fun w => l09Nb_0 a b c v p q r ea eb ec hv hp hq hr w)
  have H := Lib.hid h
  clear h hv hp hq hr ea eb ec
  go_enter Tryd.func24, Tryd.ntmps24
  go_wp2_with fail
  refine (specIsT_is true _ _ _ H.out _).mono ?_
  rintro e w1 ⟨rfl, hb1⟩
  have Bw1_0 : Box w1 (w.heap.size) [.int .i64 a, .int .i64 b, .int .i64 c] := by refine Box.below ?_ hb1; repeat (first | with_reducible assumption | with_reducible exact Box.new _ _ _ | (with_reducible refine Box.newAt ?_ _ _; (simp; done)) | with_reducible apply Box.alloc | with_reducible apply Box.drewN | with_reducible apply Box.drew)
  obtain ⟨_, _, _, _, _, _, _⟩ := Bw1_0.three
  have Bw1_1 : Box w1 (w.heap.size + 1) [.int .i64 0, .int .i64 0, .int .i64 0] := by refine Box.below ?_ hb1; repeat (first | with_reducible assumption | with_reducible exact Box.new _ _ _ | (with_reducible refine Box.newAt ?_ _ _; (simp; done)) | with_reducible apply Box.alloc | with_reducible apply Box.drewN | with_reducible apply Box.drew)
  obtain ⟨_, _, _, _, _, _, _⟩ := Bw1_1.three
  have T1 : Below w.heap.size w w1 := by repeat (first | with_reducible exact own_refl _ | with_reducible assumption | with_reducible apply own_alloc | with_reducible apply own_drewN | with_reducible apply own_drew | ((with_reducible refine own_setCell ?_ ?_ _); rotate_left; focus (first | (simp; done) | (simp; omega))) | (with_reducible (refine own_trans ?_ (by assumption))))
  go_wp2_with fail
  refine (l01In_is true _ _ _ (by rfl) _).mono ?_
  rintro e w2 ⟨rfl, rfl⟩
  go_wp2_with fail
  refine (HC.out _).mono ?_
  rintro e w3 ⟨rfl, hb3⟩
  have T3 := own_trans T1 hb3
  have R3 := Bw1_1.below hb3
  have Q3 : Box (w3.alloc (.cells #[.int .i64 p, .int .i64 q, .int .i64 r] 36)) w3.heap.size [.int .i64 p, .int .i64 q, .int .i64 r] := Box.new _ _ _
  have R3 := R3.alloc (.cells #[.int .i64 p, .int .i64 q, .int .i64 r] 36)
  obtain ⟨_, _, _, _, _, _, _⟩ := Q3.three
  obtain ⟨_, _, _, _, _, _, _⟩ := R3.three
  go_wp2
  have Z := R3.put3 (.int .i64 0) (.int .i64 0) (.int .i64 0)
  obtain ⟨_, d0, d1, d2, _, _, _⟩ := Z.three
  exact bodyPost_ret (v := .tuple #[(.agg #[.int .i64 0, .int .i64 0, .int .i64 0]), (.int .i64 3)]) (by simp [results, Tryd.results24, go_sem, d0, d1, d2]) rfl ⟨rfl, by repeat (first | with_reducible exact own_refl _ | with_reducible assumption | with_reducible apply own_alloc | with_reducible apply own_drewN | with_reducible apply own_drew | ((with_reducible refine own_setCell ?_ ?_ _); rotate_left; focus (first | (simp; done) | (simp; omega))) | (with_reducible (refine own_trans ?_ (by assumption))))⟩

set_option maxHeartbeats 1000000 in
theorem specNbo_yes1 (a b c v p q r : Int) (h : isT a b c = true) (hv : 3 * c * a - b = v) (hp : lo3 c a v = p) (hq : mi3 c a v = q) (hr : hi3 c a v = r) (hl : ¬ 1000000000 < r) (w : World) : Calls Tryd.prog 24 #[(.agg #[.int .i64 a, .int .i64 b, .int .i64 c]), (.int .i64 1)] w (RetT p q r 0 w) := by
  obtain ⟨ea, eb, ec⟩ := isT_ent h
  have HC := Lib.hid (fun w => l09Nb_1 a b c v p q r ea eb ec hv hp hq hr w)
  have H := Lib.hid h
  clear h hv hp hq hr ea eb ec
  go_enter Tryd.func24, Tryd.ntmps24
  go_wp2_with fail
  refine (specIsT_is true _ _ _ H.out _).mono ?_
  rintro e w1 ⟨rfl, hb1⟩
  have Bw1_0 : Box w1 (w.heap.size) [.int .i64 a, .int .i64 b, .int .i64 c] := by refine Box.below ?_ hb1; repeat (first | with_reducible assumption | with_reducible exact Box.new _ _ _ | (with_reducible refine Box.newAt ?_ _ _; (simp; done)) | with_reducible apply Box.alloc | with_reducible apply Box.drewN | with_reducible apply Box.drew)
  obtain ⟨_, _, _, _, _, _, _⟩ := Bw1_0.three
  have Bw1_1 : Box w1 (w.heap.size + 1) [.int .i64 0, .int .i64 0, .int .i64 0] := by refine Box.below ?_ hb1; repeat (first | with_reducible assumption | with_reducible exact Box.new _ _ _ | (with_reducible refine Box.newAt ?_ _ _; (simp; done)) | with_reducible apply Box.alloc | with_reducible apply Box.drewN | with_reducible apply Box.drew)
  obtain ⟨_, _, _, _, _, _, _⟩ := Bw1_1.three
  have T1 : Below w.heap.size w w1 := by repeat (first | with_reducible exact own_refl _ | with_reducible assumption | with_reducible apply own_alloc | with_reducible apply own_drewN | with_reducible apply own_drew | ((with_reducible refine own_setCell ?_ ?_ _); rotate_left; focus (first | (simp; done) | (simp; omega))) | (with_reducible (refine own_trans ?_ (by assumption))))
  go_wp2_with fail
  refine (l01In_is true _ _ _ (by rfl) _).mono ?_
  rintro e w2 ⟨rfl, rfl⟩
  go_wp2_with fail
  refine (HC.out _).mono ?_
  rintro e w3 ⟨rfl, hb3⟩
  have T3 := own_trans T1 hb3
  have R3 := Bw1_1.below hb3
  have Q3 : Box (w3.alloc (.cells #[.int .i64 p, .int .i64 q, .int .i64 r] 36)) w3.heap.size [.int .i64 p, .int .i64 q, .int .i64 r] := Box.new _ _ _
  have R3 := R3.alloc (.cells #[.int .i64 p, .int .i64 q, .int .i64 r] 36)
  obtain ⟨_, _, _, _, _, _, _⟩ := Q3.three
  obtain ⟨_, _, _, _, _, _, _⟩ := R3.three
  go_wp2
  have Z := R3.put3 (.int .i64 p) (.int .i64 q) (.int .i64 r)
  obtain ⟨_, d0, d1, d2, _, _, _⟩ := Z.three
  exact bodyPost_ret (v := .tuple #[(.agg #[.int .i64 p, .int .i64 q, .int .i64 r]), (.int .i64 0)]) (by simp [results, Tryd.results24, go_sem, d0, d1, d2]) rfl ⟨rfl, by repeat (first | with_reducible exact own_refl _ | with_reducible assumption | with_reducible apply own_alloc | with_reducible apply own_drewN | with_reducible apply own_drew | ((with_reducible refine own_setCell ?_ ?_ _); rotate_left; focus (first | (simp; done) | (simp; omega))) | (with_reducible (refine own_trans ?_ (by assumption))))⟩

set_option maxHeartbeats 1000000 in
theorem specNbo_lim1 (a b c v p q r : Int) (h : isT a b c = true) (hv : 3 * c * a - b = v) (hp : lo3 c a v = p) (hq : mi3 c a v = q) (hr : hi3 c a v = r) (hl : 1000000000 < r) (w : World) : Calls Tryd.prog 24 #[(.agg #[.int .i64 a, .int .i64 b, .int .i64 c]), (.int .i64 1)] w (RetT 0 0 0 3 w) := by
  obtain ⟨ea, eb, ec⟩ := isT_ent h
  have HC := Lib.hid (fun w => l09Nb_1 a b c v p q r ea eb ec hv hp hq hr w)
  have H := Lib.hid h
  clear h hv hp hq hr ea eb ec
  go_enter Tryd.func24, Tryd.ntmps24
  go_wp2_with fail
  refine (specIsT_is true _ _ _ H.out _).mono ?_
  rintro e w1 ⟨rfl, hb1⟩
  have Bw1_0 : Box w1 (w.heap.size) [.int .i64 a, .int .i64 b, .int .i64 c] := by refine Box.below ?_ hb1; repeat (first | with_reducible assumption | with_reducible exact Box.new _ _ _ | (with_reducible refine Box.newAt ?_ _ _; (simp; done)) | with_reducible apply Box.alloc | with_reducible apply Box.drewN | with_reducible apply Box.drew)
  obtain ⟨_, _, _, _, _, _, _⟩ := Bw1_0.three
  have Bw1_1 : Box w1 (w.heap.size + 1) [.int .i64 0, .int .i64 0, .int .i64 0] := by refine Box.below ?_ hb1; repeat (first | with_reducible assumption | with_reducible exact Box.new _ _ _ | (with_reducible refine Box.newAt ?_ _ _; (simp; done)) | with_reducible apply Box.alloc | with_reducible apply Box.drewN | with_reducible apply Box.drew)
  obtain ⟨_, _, _, _, _, _, _⟩ := Bw1_1.three
  have T1 : Below w.heap.size w w1 := by repeat (first | with_reducible exact own_refl _ | with_reducible assumption | with_reducible apply own_alloc | with_reducible apply own_drewN | with_reducible apply own_drew | ((with_reducible refine own_setCell ?_ ?_ _); rotate_left; focus (first | (simp; done) | (simp; omega))) | (with_reducible (refine own_trans ?_ (by assumption))))
  go_wp2_with fail
  refine (l01In_is true _ _ _ (by rfl) _).mono ?_
  rintro e w2 ⟨rfl, rfl⟩
  go_wp2_with fail
  refine (HC.out _).mono ?_
  rintro e w3 ⟨rfl, hb3⟩
  have T3 := own_trans T1 hb3
  have R3 := Bw1_1.below hb3
  have Q3 : Box (w3.alloc (.cells #[.int .i64 p, .int .i64 q, .int .i64 r] 36)) w3.heap.size [.int .i64 p, .int .i64 q, .int .i64 r] := Box.new _ _ _
  have R3 := R3.alloc (.cells #[.int .i64 p, .int .i64 q, .int .i64 r] 36)
  obtain ⟨_, _, _, _, _, _, _⟩ := Q3.three
  obtain ⟨_, _, _, _, _, _, _⟩ := R3.three
  go_wp2
  have Z := R3.put3 (.int .i64 0) (.int .i64 0) (.int .i64 0)
  obtain ⟨_, d0, d1, d2, _, _, _⟩ := Z.three
  exact bodyPost_ret (v := .tuple #[(.agg #[.int .i64 0, .int .i64 0, .int .i64 0]), (.int .i64 3)]) (by simp [results, Tryd.results24, go_sem, d0, d1, d2]) rfl ⟨rfl, by repeat (first | with_reducible exact own_refl _ | with_reducible assumption | with_reducible apply own_alloc | with_reducible apply own_drewN | with_reducible apply own_drew | ((with_reducible refine own_setCell ?_ ?_ _); rotate_left; focus (first | (simp; done) | (simp; omega))) | (with_reducible (refine own_trans ?_ (by assumption))))⟩

set_option maxHeartbeats 1000000 in
theorem specNbo_yes2 (a b c v p q r : Int) (h : isT a b c = true) (hv : 3 * a * b - c = v) (hp : lo3 a b v = p) (hq : mi3 a b v = q) (hr : hi3 a b v = r) (hl : ¬ 1000000000 < r) (w : World) : Calls Tryd.prog 24 #[(.agg #[.int .i64 a, .int .i64 b, .int .i64 c]), (.int .i64 2)] w (RetT p q r 0 w) := by
  obtain ⟨ea, eb, ec⟩ := isT_ent h
  have HC := Lib.hid (fun w => l09Nb_2 a b c v p q r ea eb ec hv hp hq hr w)
  have H := Lib.hid h
  clear h hv hp hq hr ea eb ec
  go_enter Tryd.func24, Tryd.ntmps24
  go_wp2_with fail
  refine (specIsT_is true _ _ _ H.out _).mono ?_
  rintro e w1 ⟨rfl, hb1⟩
  have Bw1_0 : Box w1 (w.heap.size) [.int .i64 a, .int .i64 b, .int .i64 c] := by refine Box.below ?_ hb1; repeat (first | with_reducible assumption | with_reducible exact Box.new _ _ _ | (with_reducible refine Box.newAt ?_ _ _; (simp; done)) | with_reducible apply Box.alloc | with_reducible apply Box.drewN | with_reducible apply Box.drew)
  obtain ⟨_, _, _, _, _, _, _⟩ := Bw1_0.three
  have Bw1_1 : Box w1 (w.heap.size + 1) [.int .i64 0, .int .i64 0, .int .i64 0] := by refine Box.below ?_ hb1; repeat (first | with_reducible assumption | with_reducible exact Box.new _ _ _ | (with_reducible refine Box.newAt ?_ _ _; (simp; done)) | with_reducible apply Box.alloc | with_reducible apply Box.drewN | with_reducible apply Box.drew)
  obtain ⟨_, _, _, _, _, _, _⟩ := Bw1_1.three
  have T1 : Below w.heap.size w w1 := by repeat (first | with_reducible exact own_refl _ | with_reducible assumption | with_reducible apply own_alloc | with_reducible apply own_drewN | with_reducible apply own_drew | ((with_reducible refine own_setCell ?_ ?_ _); rotate_left; focus (first | (simp; done) | (simp; omega))) | (with_reducible (refine own_trans ?_ (by assumption))))
  go_wp2_with fail
  refine (l01In_is true _ _ _ (by rfl) _).mono ?_
  rintro e w2 ⟨rfl, rfl⟩
  go_wp2_with fail
  refine (HC.out _).mono ?_
  rintro e w3 ⟨rfl, hb3⟩
  have T3 := own_trans T1 hb3
  have R3 := Bw1_1.below hb3
  have Q3 : Box (w3.alloc (.cells #[.int .i64 p, .int .i64 q, .int .i64 r] 36)) w3.heap.size [.int .i64 p, .int .i64 q, .int .i64 r] := Box.new _ _ _
  have R3 := R3.alloc (.cells #[.int .i64 p, .int .i64 q, .int .i64 r] 36)
  obtain ⟨_, _, _, _, _, _, _⟩ := Q3.three
  obtain ⟨_, _, _, _, _, _, _⟩ := R3.three
  go_wp2
  have Z := R3.put3 (.int .i64 p) (.int .i64 q) (.int .i64 r)
  obtain ⟨_, d0, d1, d2, _, _, _⟩ := Z.three
  exact bodyPost_ret (v := .tuple #[(.agg #[.int .i64 p, .int .i64 q, .int .i64 r]), (.int .i64 0)]) (by simp [results, Tryd.results24, go_sem, d0, d1, d2]) rfl ⟨rfl, by repeat (first | with_reducible exact own_refl _ | with_reducible assumption | with_reducible apply own_alloc | with_reducible apply own_drewN | with_reducible apply own_drew | ((with_reducible refine own_setCell ?_ ?_ _); rotate_left; focus (first | (simp; done) | (simp; omega))) | (with_reducible (refine own_trans ?_ (by assumption))))⟩

set_option maxHeartbeats 1000000 in
theorem specNbo_lim2 (a b c v p q r : Int) (h : isT a b c = true) (hv : 3 * a * b - c = v) (hp : lo3 a b v = p) (hq : mi3 a b v = q) (hr : hi3 a b v = r) (hl : 1000000000 < r) (w : World) : Calls Tryd.prog 24 #[(.agg #[.int .i64 a, .int .i64 b, .int .i64 c]), (.int .i64 2)] w (RetT 0 0 0 3 w) := by
  obtain ⟨ea, eb, ec⟩ := isT_ent h
  have HC := Lib.hid (fun w => l09Nb_2 a b c v p q r ea eb ec hv hp hq hr w)
  have H := Lib.hid h
  clear h hv hp hq hr ea eb ec
  go_enter Tryd.func24, Tryd.ntmps24
  go_wp2_with fail
  refine (specIsT_is true _ _ _ H.out _).mono ?_
  rintro e w1 ⟨rfl, hb1⟩
  have Bw1_0 : Box w1 (w.heap.size) [.int .i64 a, .int .i64 b, .int .i64 c] := by refine Box.below ?_ hb1; repeat (first | with_reducible assumption | with_reducible exact Box.new _ _ _ | (with_reducible refine Box.newAt ?_ _ _; (simp; done)) | with_reducible apply Box.alloc | with_reducible apply Box.drewN | with_reducible apply Box.drew)
  obtain ⟨_, _, _, _, _, _, _⟩ := Bw1_0.three
  have Bw1_1 : Box w1 (w.heap.size + 1) [.int .i64 0, .int .i64 0, .int .i64 0] := by refine Box.below ?_ hb1; repeat (first | with_reducible assumption | with_reducible exact Box.new _ _ _ | (with_reducible refine Box.newAt ?_ _ _; (simp; done)) | with_reducible apply Box.alloc | with_reducible apply Box.drewN | with_reducible apply Box.drew)
  obtain ⟨_, _, _, _, _, _, _⟩ := Bw1_1.three
  have T1 : Below w.heap.size w w1 := by repeat (first | with_reducible exact own_refl _ | with_reducible assumption | with_reducible apply own_alloc | with_reducible apply own_drewN | with_reducible apply own_drew | ((with_reducible refine own_setCell ?_ ?_ _); rotate_left; focus (first | (simp; done) | (simp; omega))) | (with_reducible (refine own_trans ?_ (by assumption))))
  go_wp2_with fail
  refine (l01In_is true _ _ _ (by rfl) _).mono ?_
  rintro e w2 ⟨rfl, rfl⟩
  go_wp2_with fail
  refine (HC.out _).mono ?_
  rintro e w3 ⟨rfl, hb3⟩
  have T3 := own_trans T1 hb3
  have R3 := Bw1_1.below hb3
  have Q3 : Box (w3.alloc (.cells #[.int .i64 p, .int .i64 q, .int .i64 r] 36)) w3.heap.size [.int .i64 p, .int .i64 q, .int .i64 r] := Box.new _ _ _
  have R3 := R3.alloc (.cells #[.int .i64 p, .int .i64 q, .int .i64 r] 36)
  obtain ⟨_, _, _, _, _, _, _⟩ := Q3.three
  obtain ⟨_, _, _, _, _, _, _⟩ := R3.three
  go_wp2
  have Z := R3.put3 (.int .i64 0) (.int .i64 0) (.int .i64 0)
  obtain ⟨_, d0, d1, d2, _, _, _⟩ := Z.three
  exact bodyPost_ret (v := .tuple #[(.agg #[.int .i64 0, .int .i64 0, .int .i64 0]), (.int .i64 3)]) (by simp [results, Tryd.results24, go_sem, d0, d1, d2]) rfl ⟨rfl, by repeat (first | with_reducible exact own_refl _ | with_reducible assumption | with_reducible apply own_alloc | with_reducible apply own_drewN | with_reducible apply own_drew | ((with_reducible refine own_setCell ?_ ?_ _); rotate_left; focus (first | (simp; done) | (simp; omega))) | (with_reducible (refine own_trans ?_ (by assumption))))⟩
end Go.Proofs.YtafmfdhogoheaaaDoor
