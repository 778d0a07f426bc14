/- impl.MatrixOfWord: contract. -/
import Derived.Test.YtkeadknbdihkmaaDoorMow
namespace Go.Proofs.YtkeadknbdihkmaaDoor
open Go.ChangeShapes Go.WideShapes Go.ChangeAt Go.RowKit

set_option maxRecDepth 100000 in
set_option maxHeartbeats 2000000 in
theorem implMow_yes (s : ByteArray) (hn : s.size ≤ 200) (ms : List Mat) (hs : spell (ltA esWord) s.data.toList = some ms) (r : Mat) (kd : Int) (hPA : PA ms r kd) (w : World) (hid : Idn w) (hmx : MxS w) :
    Calls Tryd.prog 32 #[.string s] w (RetM r kd w) := by
  have HS := Lib.hid hs
  have HP := Lib.hid hPA
  have HL := Lib.hid ((spell_len _ _ _ hs).trans (str_len s))
  have T0 : Below w.heap.size w (w.alloc (.cells #[.int .i64 0, .int .i64 0, .int .i64 0, .int .i64 0] 35)) := by repeat (first | with_reducible exact own_refl _ | with_reducible assumption | with_reducible apply own_alloc | with_reducible apply own_drewN | with_reducible apply own_drew | ((with_reducible refine own_setCell ?_ ?_ _); rotate_left; focus (first | (simp; done) | (simp; omega))) | (with_reducible (refine own_trans ?_ (by assumption))))
  have I0 := Lib.hid (Rd.below hid T0)
  have M0 := Lib.hid (Rd.below hmx T0)
  clear hs hPA
  go_enter Tryd.func32, Tryd.ntmps32
  go_wp2_with fail
  refine (wordL_any _ I0.out M0.out).mono ?_
  rintro e w1 ⟨⟨b, n, rfl, hM⟩, hb1⟩
  have T1 : Below w.heap.size w w1 := by repeat (first | with_reducible exact own_refl _ | with_reducible assumption | with_reducible apply own_alloc | with_reducible apply own_drewN | with_reducible apply own_drew | ((with_reducible refine own_setCell ?_ ?_ _); rotate_left; focus (first | (simp; done) | (simp; omega))) | (with_reducible (refine own_trans ?_ (by assumption))))
  have R1 : Box w1 w.heap.size [.int .i64 0, .int .i64 0, .int .i64 0, .int .i64 0] := Box.below (Box.new _ _ _) hb1
  clear I0 M0
  go_wp2_with fail
  refine (letters_any s 200 (by omega) (by omega) (ltA esWord) _ HS.out b n w1 hM).mono ?_
  rintro e w2 ⟨hr, hb2⟩
  obtain ⟨g, cap, rfl, hB⟩ := hr.some
  have T2 := own_trans T1 hb2
  have R2 := R1.below hb2
  clear hr hM hb1 hb2 T1 R1
  go_wp2_with fail
  refine (prodAll_any ms g cap (by have := HL.out; omega) r kd HP.out _ (Rd.below hid T2) hB).mono ?_
  rintro e w3 ⟨rfl, hb3⟩
  have T3 := own_trans T2 hb3
  have R3 := R2.below hb3
  obtain ⟨_, _, _, _, _, _, _, _, _⟩ := R3.four
  clear T2 R2 hb3 hB
  go_wp2
  obtain ⟨d0, d1, d2, d3⟩ := R3.reads4' (.int .i64 r.a) (.int .i64 r.b) (.int .i64 r.c) (.int .i64 r.d)
  exact bodyPost_ret (v := .tuple #[(.agg #[.int .i64 r.a, .int .i64 r.b, .int .i64 r.c, .int .i64 r.d]), (.int .i64 kd)]) (by simp [results, Tryd.results32, go_sem, d0, d1, d2, d3]) rfl ⟨rfl, by repeat (first | with_reducible exact own_refl _ | with_reducible assumption | with_reducible apply own_alloc | with_reducible apply own_drewN | with_reducible apply own_drew | ((with_reducible refine own_setCell ?_ ?_ _); rotate_left; focus (first | (simp; done) | (simp; omega))) | (with_reducible (refine own_trans ?_ (by assumption))))⟩
set_option maxRecDepth 100000 in
set_option maxHeartbeats 2000000 in
theorem implMow_no (s : ByteArray) (hn' : s.size ≤ 9223372036854775807) (hs : ¬ s.size ≤ 200 ∨ spell (ltA esWord) s.data.toList = none) (w : World) (hid : Idn w) (hmx : MxS w) :
    Calls Tryd.prog 32 #[.string s] w (RetM Mat.zero 2 w) := by
  have HS := Lib.hid hs
  have T0 : Below w.heap.size w (w.alloc (.cells #[.int .i64 0, .int .i64 0, .int .i64 0, .int .i64 0] 35)) := by repeat (first | with_reducible exact own_refl _ | with_reducible assumption | with_reducible apply own_alloc | with_reducible apply own_drewN | with_reducible apply own_drew | ((with_reducible refine own_setCell ?_ ?_ _); rotate_left; focus (first | (simp; done) | (simp; omega))) | (with_reducible (refine own_trans ?_ (by assumption))))
  have I0 := Lib.hid (Rd.below hid T0)
  have M0 := Lib.hid (Rd.below hmx T0)
  clear hs
  go_enter Tryd.func32, Tryd.ntmps32
  go_wp2_with fail
  refine (wordL_any _ I0.out M0.out).mono ?_
  rintro e w1 ⟨⟨b, n, rfl, hM⟩, hb1⟩
  have T1 : Below w.heap.size w w1 := by repeat (first | with_reducible exact own_refl _ | with_reducible assumption | with_reducible apply own_alloc | with_reducible apply own_drewN | with_reducible apply own_drew | ((with_reducible refine own_setCell ?_ ?_ _); rotate_left; focus (first | (simp; done) | (simp; omega))) | (with_reducible (refine own_trans ?_ (by assumption))))
  have R1 : Box w1 w.heap.size [.int .i64 0, .int .i64 0, .int .i64 0, .int .i64 0] := Box.below (Box.new _ _ _) hb1
  have HLT : Hid (Calls Tryd.prog 50 #[.string s, (.int .i64 200), .map (some b)] w1 fun e w' => e = .returned (.tuple #[.slice none 0 0, .bool false]) ∧ Below w1.heap.size w1 w') := Lib.hid (by
    by_cases h : s.size ≤ 200
    · exact (letters_any s 200 (by omega) (by omega) (ltA esWord) none (HS.out.resolve_left (fun q => q h)) b n w1 hM).mono fun e w' ⟨h1, h2⟩ => ⟨h1.none, h2⟩
    · exact (letters_long s 200 (by omega) _ w1).mono fun e w' ⟨h1, h2⟩ => ⟨h1.none, h2⟩)
  clear I0 M0 hM
  go_wp2_with fail
  refine HLT.out.mono ?_
  rintro e w2 ⟨rfl, hb2⟩
  have R2 := R1.below hb2
  obtain ⟨_, _, _, _, _, _, _, _, _⟩ := R2.four
  clear HLT
  go_wp2
  obtain ⟨d0, d1, d2, d3⟩ := R2.reads4' (.int .i64 0) (.int .i64 0) (.int .i64 0) (.int .i64 0)
  exact bodyPost_ret (v := .tuple #[(.agg #[.int .i64 0, .int .i64 0, .int .i64 0, .int .i64 0]), (.int .i64 2)]) (by simp [results, Tryd.results32, go_sem, d0, d1, d2, d3]) rfl ⟨rfl, by repeat (first | with_reducible exact own_refl _ | with_reducible assumption | with_reducible apply own_alloc | with_reducible apply own_drewN | with_reducible apply own_drew | ((with_reducible refine own_setCell ?_ ?_ _); rotate_left; focus (first | (simp; done) | (simp; omega))) | (with_reducible (refine own_trans ?_ (by assumption))))⟩
end Go.Proofs.YtkeadknbdihkmaaDoor
