/- MatrixOfLetters: the program's side. -/
import Derived.Test.YtkeadknbdihkmaaDoorTrS
import Derived.Test.YtkeadknbdihkmaaDoorPA
namespace Go.Proofs.YtkeadknbdihkmaaDoor
open Go.ChangeShapes Go.WideShapes Go.ChangeAt Go.RowKit

open Classical in
/-- The letters of words of the tree. -/
noncomputable def treeF (x : Lit) : Option Mat := if x = byteK 98 then some ⟨3, 2, 4, 3⟩ else if x = byteK 97 then some ⟨1, 1, 1, 2⟩ else none
def treeOk (bs : List UInt8) : Bool := bs.all fun c => c == 97 || c == 98
theorem treeF_at (c : UInt8) : treeF (byteK c) = if c == 97 || c == 98 then some (letB c) else none := by
  unfold treeF letB
  by_cases h1 : c = 98
  · subst h1; simp
  · by_cases h2 : c = 97
    · subst h2; simp [byteK_eq]
    · rw [if_neg (fun h => h1 (byteK_eq.1 h)), if_neg (fun h => h2 (byteK_eq.1 h))]
      simp [h1, h2]
theorem spell_tree (bs : List UInt8) : spell treeF bs = if treeOk bs then some (bs.map letB) else none := by
  induction bs with
  | nil => rfl
  | cons c r ih =>
    simp only [spell, treeF_at, ih, treeOk, List.all_cons, List.map_cons]
    by_cases h : (c == 97 || c == 98) = true
    · by_cases h2 : (r.all fun c => c == 97 || c == 98) = true
      · simp [h, h2]
      · simp only [h, h2, if_true, Bool.true_and]
        rfl
    · simp only [h, Bool.false_and]
      rfl
theorem treeOk_stop (s : ByteArray) (k : Nat) (hk : k < s.size) (h1 : s[k] ≠ 97) (h2 : s[k] ≠ 98) : treeOk s.data.toList = false := by
  have hl : k < s.data.toList.length := by rw [str_len]; exact hk
  refine List.all_eq_false.2 ⟨s.data.toList[k], List.getElem_mem hl, ?_⟩
  rw [str_at s k hk hl]
  simp [h1, h2]
set_option maxRecDepth 100000 in
set_option maxHeartbeats 2000000 in
theorem treeL_any (w : World) :
    Calls Tryd.prog 51 #[] w fun e w' => e = .returned (.map (some w.heap.size)) ∧ LMn w' 66 5 w.heap.size treeF 2 ∧ Below w.heap.size w w' := by
  have hmm := @run_makeMap Tryd.prog
  have l0 := LMn.made w 66 5 Tryd.underlying66
  have T0 : Below w.heap.size w (w.alloc (.map #[] 0)) := by repeat (first | with_reducible exact own_refl _ | with_reducible assumption | with_reducible apply own_alloc | with_reducible apply own_drewN | with_reducible apply own_drew | ((with_reducible refine own_setCell ?_ ?_ _); rotate_left; focus (first | (simp; done) | (simp; omega))) | (with_reducible (refine own_trans ?_ (by assumption))))
  obtain ⟨w3, r3, l3, g3⟩ := l0.put byte_keyed (by omega) (.int .u8 97) (byteK 97) ⟨1, 1, 1, 2⟩ (byte_key 97) trivial
  have T3 := below_put T0 (Nat.le_refl _) g3 T0.size
  simp only [matV] at r3
  obtain ⟨w5, r5, l5, g5⟩ := l3.put byte_keyed (by omega) (.int .u8 98) (byteK 98) ⟨3, 2, 4, 3⟩ (byte_key 98) trivial
  have T5 := below_put T3 (Nat.le_refl _) g5 T3.size
  simp only [matV] at r5
  have L5 := Lib.hid l5
  have H5 := Lib.hid T5
  clear l0 l3 l5 g3 g5 T0 T3 T5
  go_enter Tryd.func51, Tryd.ntmps51
  go_wp2
  go_ret
  exact ⟨rfl, L5.out, H5.out⟩
set_option maxRecDepth 100000 in
set_option maxHeartbeats 2000000 in
theorem implMol_yes (s : ByteArray) (hn : s.size ≤ 400) (hs : treeOk s.data.toList = true) (r : Mat) (kd : Int) (hPA : PA (wordB s) r kd) (w : World) (hid : Idn w) :
    Calls Tryd.prog 24 #[.string s] w (RetM r kd w) := by
  have HS : Hid (spell treeF s.data.toList = some (wordB s)) := Lib.hid (by rw [spell_tree, hs]; rfl)
  have HP := Lib.hid hPA
  have HL := Lib.hid (wordB_len s)
  clear hs hPA
  go_enter Tryd.func24, Tryd.ntmps24
  go_wp2_with fail
  refine (treeL_any _).mono ?_
  rintro e w1 ⟨rfl, hM, hb1⟩
  simp only [World.size_alloc] at hM
  have T1 : Below w.heap.size w w1 := by repeat (first | with_reducible exact own_refl _ | with_reducible assumption | with_reducible apply own_alloc | with_reducible apply own_drewN | with_reducible apply own_drew | ((with_reducible refine own_setCell ?_ ?_ _); rotate_left; focus (first | (simp; done) | (simp; omega))) | (with_reducible (refine own_trans ?_ (by assumption))))
  have R1 : Box w1 w.heap.size [.int .i64 0, .int .i64 0, .int .i64 0, .int .i64 0] := Box.below (Box.new _ _ _) hb1
  go_wp2_with fail
  refine (letters_any s 400 (by omega) (by omega) treeF _ HS.out (w.heap.size + 1) 2 w1 hM).mono ?_
  rintro e w2 ⟨hr, hb2⟩
  obtain ⟨g, cap, rfl, hB⟩ := hr.some
  have T2 := own_trans T1 hb2
  have R2 := R1.below hb2
  clear hr hM hb1 hb2 T1 R1
  go_wp2_with fail
  refine (prodAll_any (wordB s) g cap (by have := HL.out; omega) r kd HP.out _ (Rd.below hid T2) hB).mono ?_
  rintro e w3 ⟨rfl, hb3⟩
  have T3 := own_trans T2 hb3
  have R3 := R2.below hb3
  obtain ⟨_, _, _, _, _, _, _, _, _⟩ := R3.four
  clear T2 R2 hb3 hB
  go_wp2
  obtain ⟨d0, d1, d2, d3⟩ := R3.reads4' (.int .i64 r.a) (.int .i64 r.b) (.int .i64 r.c) (.int .i64 r.d)
  exact bodyPost_ret (v := .tuple #[(.agg #[.int .i64 r.a, .int .i64 r.b, .int .i64 r.c, .int .i64 r.d]), (.int .i64 kd)]) (by simp [results, Tryd.results24, go_sem, d0, d1, d2, d3]) rfl ⟨rfl, by repeat (first | with_reducible exact own_refl _ | with_reducible assumption | with_reducible apply own_alloc | with_reducible apply own_drewN | with_reducible apply own_drew | ((with_reducible refine own_setCell ?_ ?_ _); rotate_left; focus (first | (simp; done) | (simp; omega))) | (with_reducible (refine own_trans ?_ (by assumption))))⟩
set_option maxRecDepth 100000 in
set_option maxHeartbeats 2000000 in
theorem implMol_no (s : ByteArray) (hs : ¬ s.size ≤ 400 ∨ treeOk s.data.toList = false) (w : World) :
    Calls Tryd.prog 24 #[.string s] w (RetM Mat.zero 2 w) := by
  have HS := Lib.hid hs
  clear hs
  go_enter Tryd.func24, Tryd.ntmps24
  go_wp2_with fail
  refine (treeL_any _).mono ?_
  rintro e w1 ⟨rfl, hM, hb1⟩
  simp only [World.size_alloc] at hM
  have T1 : Below w.heap.size w w1 := by repeat (first | with_reducible exact own_refl _ | with_reducible assumption | with_reducible apply own_alloc | with_reducible apply own_drewN | with_reducible apply own_drew | ((with_reducible refine own_setCell ?_ ?_ _); rotate_left; focus (first | (simp; done) | (simp; omega))) | (with_reducible (refine own_trans ?_ (by assumption))))
  have R1 : Box w1 w.heap.size [.int .i64 0, .int .i64 0, .int .i64 0, .int .i64 0] := Box.below (Box.new _ _ _) hb1
  have HLT : Hid (Calls Tryd.prog 50 #[.string s, (.int .i64 400), .map (some (w.heap.size + 1))] w1 fun e w' => e = .returned (.tuple #[.slice none 0 0, .bool false]) ∧ Below w1.heap.size w1 w') := Lib.hid (by
    by_cases h : s.size ≤ 400
    · exact (letters_any s 400 (by omega) (by omega) treeF none (by rw [spell_tree, HS.out.resolve_left (fun q => q h)]; rfl) _ 2 w1 hM).mono fun e w' ⟨h1, h2⟩ => ⟨h1.none, h2⟩
    · exact (letters_long s 400 (by omega) _ w1).mono fun e w' ⟨h1, h2⟩ => ⟨h1.none, h2⟩)
  clear hM
  go_wp2_with fail
  refine HLT.out.mono ?_
  rintro e w2 ⟨rfl, hb2⟩
  have R2 := R1.below hb2
  obtain ⟨_, _, _, _, _, _, _, _, _⟩ := R2.four
  clear HLT
  go_wp2
  obtain ⟨d0, d1, d2, d3⟩ := R2.reads4' (.int .i64 0) (.int .i64 0) (.int .i64 0) (.int .i64 0)
  exact bodyPost_ret (v := .tuple #[(.agg #[.int .i64 0, .int .i64 0, .int .i64 0, .int .i64 0]), (.int .i64 2)]) (by simp [results, Tryd.results24, go_sem, d0, d1, d2, d3]) rfl ⟨rfl, by repeat (first | with_reducible exact own_refl _ | with_reducible assumption | with_reducible apply own_alloc | with_reducible apply own_drewN | with_reducible apply own_drew | ((with_reducible refine own_setCell ?_ ?_ _); rotate_left; focus (first | (simp; done) | (simp; omega))) | (with_reducible (refine own_trans ?_ (by assumption))))⟩
end Go.Proofs.YtkeadknbdihkmaaDoor
