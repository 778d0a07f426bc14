/- MatrixOfWord: contracts of both sides. -/
import Derived.Test.YtfchfakkbdfajaaDoorWord
import Derived.Test.YtfchfakkbdfajaaDoorMorS
namespace Go.Proofs.YtfchfakkbdfajaaDoor
open Go.ChangeShapes Go.WideShapes Go.ChangeAt Go.RowKit

/-- The letters of words. -/
noncomputable def wordM (c : UInt8) : Option Mat := ltA esWord (byteK c)
theorem wordM_S : wordM 83 = some ⟨0, -1, 1, 0⟩ := by simp [wordM, ltA, esWord]
theorem wordM_T : wordM 84 = some ⟨1, 1, 0, 1⟩ := by simp [wordM, ltA, esWord, byteK_eq]
theorem wordM_t : wordM 116 = some ⟨1, -1, 0, 1⟩ := by simp [wordM, ltA, esWord, byteK_eq]
theorem wordM_L : wordM 76 = some ⟨1, 0, 1, 1⟩ := by simp [wordM, ltA, esWord, byteK_eq]
theorem wordM_l : wordM 108 = some ⟨1, 0, -1, 1⟩ := by simp [wordM, ltA, esWord, byteK_eq]
theorem wordM_no {c : UInt8} (h1 : c ≠ 83) (h2 : c ≠ 84) (h3 : c ≠ 116) (h4 : c ≠ 76) (h5 : c ≠ 108) : wordM c = none := by simp [wordM, ltA, esWord, byteK_eq, h1, h2, h3, h4, h5]
theorem wordM_is {c : UInt8} {m : Mat} (h : wordM c = some m) : m.is = true := by
  by_cases h1 : c = 83
  · subst h1; rw [wordM_S] at h; cases h; decide
  by_cases h2 : c = 84
  · subst h2; rw [wordM_T] at h; cases h; decide
  by_cases h3 : c = 116
  · subst h3; rw [wordM_t] at h; cases h; decide
  by_cases h4 : c = 76
  · subst h4; rw [wordM_L] at h; cases h; decide
  by_cases h5 : c = 108
  · subst h5; rw [wordM_l] at h; cases h; decide
  rw [wordM_no h1 h2 h3 h4 h5] at h; cases h
theorem spell_is {f : Lit → Option Mat} (hf : ∀ c m, f (byteK c) = some m → m.is = true) (bs : List UInt8) : ∀ ms, spell f bs = some ms → ms.all Mat.is = true := by
  induction bs with
  | nil => intro ms h; simp only [spell, Option.some.injEq] at h; subst h; rfl
  | cons d r ih =>
    intro ms h
    simp only [spell] at h
    rcases e1 : f (byteK d) with _ | x
    · rw [e1] at h; simp at h
    · rcases e2 : spell f r with _ | y
      · rw [e1, e2] at h; simp at h
      · rw [e1, e2] at h
        simp only [Option.some.injEq] at h
        subst h
        rw [List.all_cons, hf d x e1, ih y e2]
        rfl
set_option maxHeartbeats 2000000 in
theorem l02Letter_any (c : UInt8) (w : World) :
    Calls Tryd.prog 23 #[.int .u8 (c.toNat : Int)] w fun e w' => e = .returned (.tuple #[matV ((wordM c).getD Mat.zero), .bool (wordM c).isSome]) ∧ Below w.heap.size w w' := by
  by_cases h1 : c = 83
  · subst h1; rw [wordM_S]; show Calls Tryd.prog 23 #[.int .u8 83] w _
    go_enter Tryd.func23, Tryd.ntmps23
    go_wp2
    exact bodyPost_ret (v := .tuple #[(.agg #[.int .i64 0, .int .i64 (-1), .int .i64 1, .int .i64 0]), .bool true]) (by simp [results, Tryd.results23, go_sem]) rfl ⟨rfl, by repeat (first | with_reducible exact own_refl _ | with_reducible assumption | with_reducible apply own_alloc | with_reducible apply own_drewN | with_reducible apply own_drew | ((with_reducible refine own_setCell ?_ ?_ _); rotate_left; focus (first | (simp; done) | (simp; omega))) | (with_reducible (refine own_trans ?_ (by assumption))))⟩
  by_cases h2 : c = 84
  · subst h2; rw [wordM_T]; show Calls Tryd.prog 23 #[.int .u8 84] w _
    go_enter Tryd.func23, Tryd.ntmps23
    go_wp2
    exact bodyPost_ret (v := .tuple #[(.agg #[.int .i64 1, .int .i64 1, .int .i64 0, .int .i64 1]), .bool true]) (by simp [results, Tryd.results23, go_sem]) rfl ⟨rfl, by repeat (first | with_reducible exact own_refl _ | with_reducible assumption | with_reducible apply own_alloc | with_reducible apply own_drewN | with_reducible apply own_drew | ((with_reducible refine own_setCell ?_ ?_ _); rotate_left; focus (first | (simp; done) | (simp; omega))) | (with_reducible (refine own_trans ?_ (by assumption))))⟩
  by_cases h3 : c = 116
  · subst h3; rw [wordM_t]; show Calls Tryd.prog 23 #[.int .u8 116] w _
    go_enter Tryd.func23, Tryd.ntmps23
    go_wp2
    exact bodyPost_ret (v := .tuple #[(.agg #[.int .i64 1, .int .i64 (-1), .int .i64 0, .int .i64 1]), .bool true]) (by simp [results, Tryd.results23, go_sem]) rfl ⟨rfl, by repeat (first | with_reducible exact own_refl _ | with_reducible assumption | with_reducible apply own_alloc | with_reducible apply own_drewN | with_reducible apply own_drew | ((with_reducible refine own_setCell ?_ ?_ _); rotate_left; focus (first | (simp; done) | (simp; omega))) | (with_reducible (refine own_trans ?_ (by assumption))))⟩
  by_cases h4 : c = 76
  · subst h4; rw [wordM_L]; show Calls Tryd.prog 23 #[.int .u8 76] w _
    go_enter Tryd.func23, Tryd.ntmps23
    go_wp2
    exact bodyPost_ret (v := .tuple #[(.agg #[.int .i64 1, .int .i64 0, .int .i64 1, .int .i64 1]), .bool true]) (by simp [results, Tryd.results23, go_sem]) rfl ⟨rfl, by repeat (first | with_reducible exact own_refl _ | with_reducible assumption | with_reducible apply own_alloc | with_reducible apply own_drewN | with_reducible apply own_drew | ((with_reducible refine own_setCell ?_ ?_ _); rotate_left; focus (first | (simp; done) | (simp; omega))) | (with_reducible (refine own_trans ?_ (by assumption))))⟩
  by_cases h5 : c = 108
  · subst h5; rw [wordM_l]; show Calls Tryd.prog 23 #[.int .u8 108] w _
    go_enter Tryd.func23, Tryd.ntmps23
    go_wp2
    exact bodyPost_ret (v := .tuple #[(.agg #[.int .i64 1, .int .i64 0, .int .i64 (-1), .int .i64 1]), .bool true]) (by simp [results, Tryd.results23, go_sem]) rfl ⟨rfl, by repeat (first | with_reducible exact own_refl _ | with_reducible assumption | with_reducible apply own_alloc | with_reducible apply own_drewN | with_reducible apply own_drew | ((with_reducible refine own_setCell ?_ ?_ _); rotate_left; focus (first | (simp; done) | (simp; omega))) | (with_reducible (refine own_trans ?_ (by assumption))))⟩
  rw [wordM_no h1 h2 h3 h4 h5]
  have e1 : ((c.toNat : Int) == 83) = false := byte_ne h1
  have e2 : ((c.toNat : Int) == 84) = false := byte_ne h2
  have e3 : ((c.toNat : Int) == 116) = false := byte_ne h3
  have e4 : ((c.toNat : Int) == 76) = false := byte_ne h4
  have e5 : ((c.toNat : Int) == 108) = false := byte_ne h5
  generalize (c.toNat : Int) = x at e1 e2 e3 e4 e5 ⊢
  clear h1 h2 h3 h4 h5
  go_enter Tryd.func23, Tryd.ntmps23
  go_wp2
  exact bodyPost_ret (v := .tuple #[(.agg #[.int .i64 0, .int .i64 0, .int .i64 0, .int .i64 0]), .bool false]) (by simp [results, Tryd.results23, go_sem]) rfl ⟨rfl, by repeat (first | with_reducible exact own_refl _ | with_reducible assumption | with_reducible apply own_alloc | with_reducible apply own_drewN | with_reducible apply own_drew | ((with_reducible refine own_setCell ?_ ?_ _); rotate_left; focus (first | (simp; done) | (simp; omega))) | (with_reducible (refine own_trans ?_ (by assumption))))⟩
theorem letter_yes (c : UInt8) (m : Mat) (x : Int) (hx : (c.toNat : Int) = x) (h : wordM c = some m) (w : World) :
    Calls Tryd.prog 23 #[.int .u8 x] w fun e w' => e = .returned (.tuple #[(.agg #[.int .i64 m.a, .int .i64 m.b, .int .i64 m.c, .int .i64 m.d]), .bool true]) ∧ Below w.heap.size w w' := by
  have := l02Letter_any c w
  rw [h, hx] at this
  exact this
theorem letter_no (c : UInt8) (x : Int) (hx : (c.toNat : Int) = x) (h : wordM c = none) (w : World) :
    Calls Tryd.prog 23 #[.int .u8 x] w fun e w' => e = .returned (.tuple #[(.agg #[.int .i64 0, .int .i64 0, .int .i64 0, .int .i64 0]), .bool false]) ∧ Below w.heap.size w w' := by
  have := l02Letter_any c w
  rw [h, hx] at this
  exact this
/-- The byte at k, as the walk sees it. -/
theorem idx_at (s : ByteArray) (k : Nat) (hk : k < s.size) : ∃ x : Int, (∀ w, (Instr.index 9 (.string s) (.int .i64 (k : Int))).run Tryd.prog w = .ok (.int .u8 x) w) ∧ Hid ((s[k].toNat : Int) = x) :=
  ⟨_, idx_str s k hk, Lib.hid rfl⟩
end Go.Proofs.YtfchfakkbdfajaaDoor
