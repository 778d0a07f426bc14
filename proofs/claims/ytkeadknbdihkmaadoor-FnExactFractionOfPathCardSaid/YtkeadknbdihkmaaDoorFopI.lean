/- impl.FractionOfPath: contract. -/
import Derived.Test.YtkeadknbdihkmaaDoorFop
namespace Go.Proofs.YtkeadknbdihkmaaDoor
open Go.ChangeShapes Go.WideShapes Go.ChangeAt Go.RowKit

set_option maxRecDepth 100000 in
set_option maxHeartbeats 2000000 in
theorem pathL_any (w : World) :
    Calls Tryd.prog 65 #[] w fun e w' => e = .returned (.map (some w.heap.size)) ∧ LMn w' 66 5 w.heap.size pathF 2 ∧ Below w.heap.size w w' := by
  have hmm := @run_makeMap Tryd.prog
  have l0 := LMn.made w 66 5 Tryd.underlying66
  have T0 : Below w.heap.size w (w.alloc (.map #[] 0)) := by repeat (first | with_reducible exact own_refl _ | with_reducible assumption | with_reducible apply own_alloc | with_reducible apply own_drewN | with_reducible apply own_drew | ((with_reducible refine own_setCell ?_ ?_ _); rotate_left; focus (first | (simp; done) | (simp; omega))) | (with_reducible (refine own_trans ?_ (by assumption))))
  go_enter Tryd.func65, Tryd.ntmps65
  go_wp2_with fail
  refine (powerOfT_any _ _).mono ?_
  rintro e w1 ⟨rfl, hb1⟩
  go_wp2_with fail
  refine (turnAbout_any _ _ _ _ _).mono ?_
  rintro e w2 ⟨rfl, hb2⟩
  have l2 := (l0.below hb1).below hb2
  have T2 := own_trans (own_trans T0 hb1) hb2
  obtain ⟨w3, r3, l3, g3⟩ := l2.put byte_keyed (by omega) (.int .u8 76) (byteK 76) ⟨1, 0, 1, 1⟩ (byte_key 76) trivial
  have T3 := below_put T2 (Nat.le_refl _) g3 T2.size
  simp only [matV] at r3
  go_wp2_with fail
  refine (powerOfT_any _ _).mono ?_
  rintro e w4 ⟨rfl, hb4⟩
  have l4 := l3.below hb4
  have T4 := own_trans T3 hb4
  obtain ⟨w5, r5, l5, g5⟩ := l4.put byte_keyed (by omega) (.int .u8 82) (byteK 82) ⟨1, 1, 0, 1⟩ (byte_key 82) trivial
  have T5 := below_put T4 (Nat.le_refl _) g5 T4.size
  simp only [matV] at r5
  have L5 := Lib.hid l5
  have H5 := Lib.hid T5
  clear l0 l2 l3 l4 l5 g3 g5 T0 T2 T3 T4 T5
  go_wp2
  go_ret
  exact ⟨rfl, L5.out, H5.out⟩
set_option maxHeartbeats 1000000 in
theorem fractionAt_any (a b c d : Int) (h1 : Mid (a + b)) (h2 : Mid (c + d)) (w : World) :
    Calls Tryd.prog 66 #[(.agg #[.int .i64 a, .int .i64 b, .int .i64 c, .int .i64 d])] w fun e w' => e = .returned (.agg #[.int .i64 (a + b), .int .i64 (c + d)]) ∧ Below w.heap.size w w' := by
  obtain ⟨_, _⟩ := h1
  obtain ⟨_, _⟩ := h2
  have w1' : IntKind.i64.wrap (a + b) = a + b := IntWalk.i64_in _ (by omega)
  have w2' : IntKind.i64.wrap (c + d) = c + d := IntWalk.i64_in _ (by omega)
  go_enter Tryd.func66, Tryd.ntmps66
  go_wp2
  exact bodyPost_ret (v := (.agg #[.int .i64 (a + b), .int .i64 (c + d)])) (by simp [results, Tryd.results66, go_sem]) rfl ⟨rfl, by repeat (first | with_reducible exact own_refl _ | with_reducible assumption | with_reducible apply own_alloc | with_reducible apply own_drewN | with_reducible apply own_drew | ((with_reducible refine own_setCell ?_ ?_ _); rotate_left; focus (first | (simp; done) | (simp; omega))) | (with_reducible (refine own_trans ?_ (by assumption))))⟩
set_option maxRecDepth 100000 in
set_option maxHeartbeats 2000000 in
theorem implFop_yes (s : ByteArray) (hn : s.size ≤ 40) (ms : List Mat) (hs : spell pathF s.data.toList = some ms) (m : Mat) (h1 : Mid (m.a + m.b)) (h2 : Mid (m.c + m.d)) (hPA : PA ms m 0) (hl : ms.length ≤ 40) (w : World) (hid : Idn w) :
    Calls Tryd.prog 36 #[.string s] w fun e w' => e = .returned (.tuple #[(.agg #[.int .i64 (m.a + m.b), .int .i64 (m.c + m.d)]), (.int .i64 0)]) ∧ Below w.heap.size w w' := by
  have HS := Lib.hid hs
  have HP := Lib.hid hPA
  have H1 := Lib.hid h1
  have H2 := Lib.hid h2
  have HL := Lib.hid hl
  clear hs hPA h1 h2 hl
  go_enter Tryd.func36, Tryd.ntmps36
  go_wp2_with fail
  refine (pathL_any _).mono ?_
  rintro e w1 ⟨rfl, hM, hb1⟩
  simp only [World.size_alloc] at hM
  have T1 : Below w.heap.size w w1 := by repeat (first | with_reducible exact own_refl _ | with_reducible assumption | with_reducible apply own_alloc | with_reducible apply own_drewN | with_reducible apply own_drew | ((with_reducible refine own_setCell ?_ ?_ _); rotate_left; focus (first | (simp; done) | (simp; omega))) | (with_reducible (refine own_trans ?_ (by assumption))))
  have R1 : Box w1 w.heap.size [.int .i64 0, .int .i64 0] := Box.below (Box.new _ _ _) hb1
  go_wp2_with fail
  refine (letters_any s 40 (by omega) (by omega) pathF _ HS.out (w.heap.size + 1) 2 w1 hM).mono ?_
  rintro e w2 ⟨hr, hb2⟩
  obtain ⟨g, cap, rfl, hB⟩ := hr.some
  have T2 := own_trans T1 hb2
  have R2 := R1.below hb2
  clear hr hM hb1 hb2 T1 R1
  go_wp2_with fail
  refine (prodAll_any ms g cap (by have := HL.out; omega) m 0 HP.out _ (Rd.below hid T2) hB).mono ?_
  rintro e w3 ⟨rfl, hb3⟩
  have T3 := own_trans T2 hb3
  have R3 := R2.below hb3
  clear T2 R2 hb3 hB
  go_wp2_with fail
  refine (fractionAt_any _ _ _ _ H1.out H2.out _).mono ?_
  rintro e w4 ⟨rfl, hb4⟩
  have R4 := (R3.alloc _).below hb4
  obtain ⟨_, _, _, _, _⟩ := R4.two
  go_wp2
  obtain ⟨_, d1, d2⟩ := R4.reads2p (.int .i64 (m.a + m.b)) (.int .i64 (m.c + m.d))
  exact bodyPost_ret (v := .tuple #[(.agg #[.int .i64 (m.a + m.b), .int .i64 (m.c + m.d)]), (.int .i64 0)]) (by simp [results, Tryd.results36, go_sem, d1, d2]) rfl ⟨rfl, by repeat (first | with_reducible exact own_refl _ | with_reducible assumption | with_reducible apply own_alloc | with_reducible apply own_drewN | with_reducible apply own_drew | ((with_reducible refine own_setCell ?_ ?_ _); rotate_left; focus (first | (simp; done) | (simp; omega))) | (with_reducible (refine own_trans ?_ (by assumption))))⟩
set_option maxRecDepth 100000 in
set_option maxHeartbeats 2000000 in
theorem implFop_no (s : ByteArray) (hn : s.size ≤ 40) (hs : spell pathF s.data.toList = none) (w : World) :
    Calls Tryd.prog 36 #[.string s] w fun e w' => e = .returned (.tuple #[(.agg #[.int .i64 0, .int .i64 0]), (.int .i64 2)]) ∧ Below w.heap.size w w' := by
  have HS := Lib.hid hs
  clear hs
  go_enter Tryd.func36, Tryd.ntmps36
  go_wp2_with fail
  refine (pathL_any _).mono ?_
  rintro e w1 ⟨rfl, hM, hb1⟩
  simp only [World.size_alloc] at hM
  have T1 : Below w.heap.size w w1 := by repeat (first | with_reducible exact own_refl _ | with_reducible assumption | with_reducible apply own_alloc | with_reducible apply own_drewN | with_reducible apply own_drew | ((with_reducible refine own_setCell ?_ ?_ _); rotate_left; focus (first | (simp; done) | (simp; omega))) | (with_reducible (refine own_trans ?_ (by assumption))))
  have R1 : Box w1 w.heap.size [.int .i64 0, .int .i64 0] := Box.below (Box.new _ _ _) hb1
  go_wp2_with fail
  refine (letters_any s 40 (by omega) (by omega) pathF _ HS.out (w.heap.size + 1) 2 w1 hM).mono ?_
  rintro e w2 ⟨hr, hb2⟩
  have he := hr.none
  subst he
  have R2 := R1.below hb2
  obtain ⟨_, _, _, _, _⟩ := R2.two
  clear hr hM
  go_wp2
  obtain ⟨_, d1, d2⟩ := R2.reads2p (.int .i64 0) (.int .i64 0)
  exact bodyPost_ret (v := .tuple #[(.agg #[.int .i64 0, .int .i64 0]), (.int .i64 2)]) (by simp [results, Tryd.results36, go_sem, d1, d2]) rfl ⟨rfl, by repeat (first | with_reducible exact own_refl _ | with_reducible assumption | with_reducible apply own_alloc | with_reducible apply own_drewN | with_reducible apply own_drew | ((with_reducible refine own_setCell ?_ ?_ _); rotate_left; focus (first | (simp; done) | (simp; omega))) | (with_reducible (refine own_trans ?_ (by assumption))))⟩
set_option maxRecDepth 100000 in
set_option maxHeartbeats 2000000 in
theorem implFop_long (s : ByteArray) (hn : ¬ s.size ≤ 40) (w : World) :
    Calls Tryd.prog 36 #[.string s] w fun e w' => e = .returned (.tuple #[(.agg #[.int .i64 0, .int .i64 0]), (.int .i64 2)]) ∧ Below w.heap.size w w' := by
  go_enter Tryd.func36, Tryd.ntmps36
  go_wp2_with fail
  refine (pathL_any _).mono ?_
  rintro e w1 ⟨rfl, hM, hb1⟩
  simp only [World.size_alloc] at hM
  have T1 : Below w.heap.size w w1 := by repeat (first | with_reducible exact own_refl _ | with_reducible assumption | with_reducible apply own_alloc | with_reducible apply own_drewN | with_reducible apply own_drew | ((with_reducible refine own_setCell ?_ ?_ _); rotate_left; focus (first | (simp; done) | (simp; omega))) | (with_reducible (refine own_trans ?_ (by assumption))))
  have R1 : Box w1 w.heap.size [.int .i64 0, .int .i64 0] := Box.below (Box.new _ _ _) hb1
  go_wp2_with fail
  refine (letters_long s 40 (by omega) _ _).mono ?_
  rintro e w2 ⟨hr, hb2⟩
  have he := hr.none
  subst he
  have R2 := R1.below hb2
  obtain ⟨_, _, _, _, _⟩ := R2.two
  clear hr hM
  go_wp2
  obtain ⟨_, d1, d2⟩ := R2.reads2p (.int .i64 0) (.int .i64 0)
  exact bodyPost_ret (v := .tuple #[(.agg #[.int .i64 0, .int .i64 0]), (.int .i64 2)]) (by simp [results, Tryd.results36, go_sem, d1, d2]) rfl ⟨rfl, by repeat (first | with_reducible exact own_refl _ | with_reducible assumption | with_reducible apply own_alloc | with_reducible apply own_drewN | with_reducible apply own_drew | ((with_reducible refine own_setCell ?_ ?_ _); rotate_left; focus (first | (simp; done) | (simp; omega))) | (with_reducible (refine own_trans ?_ (by assumption))))⟩
end Go.Proofs.YtkeadknbdihkmaaDoor
