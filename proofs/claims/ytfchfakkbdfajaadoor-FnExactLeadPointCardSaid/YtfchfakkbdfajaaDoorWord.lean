/- impl.wordLetters: contract; its literal draws the order of evaluation. -/
import Derived.Test.YtfchfakkbdfajaaDoorMapL
import Derived.Test.YtfchfakkbdfajaaDoorNamed
import Derived.Test.YtfchfakkbdfajaaDoorInv
namespace Go.Proofs.YtfchfakkbdfajaaDoor
open Go.ChangeShapes Go.WideShapes Go.ChangeAt Go.RowKit

def esWord : List (Nat × UInt8 × Mat) := [(3, 83, ⟨0, -1, 1, 0⟩), (6, 84, ⟨1, 1, 0, 1⟩), (10, 116, ⟨1, -1, 0, 1⟩), (13, 76, ⟨1, 0, 1, 1⟩), (17, 108, ⟨1, 0, -1, 1⟩)]
def WordI (B nb : Nat) (w0 : World) (ds : List Deferred) (l : Array Bool) (a : Act) (w : World) : Prop :=
  ∃ u0 u3 u4 u5 u6 u7 u8 u9 u10 u11 u12 u13 u14 u15 u16 : Value, a = { tmps := #[u0, .map (some nb), .map (some nb), u3, u4, u5, u6, u7, u8, u9, u10, u11, u12, u13, u14, u15, u16], defers := ds } ∧ Below B w0 w ∧
    (l.getD 0 false = true → MP esWord B l u3 w) ∧
    (l.getD 1 false = true → u4 = .map (some nb)) ∧
    (l.getD 2 false = true → u5 = (.agg #[.int .i64 0, .int .i64 (-1), .int .i64 1, .int .i64 0])) ∧
    (l.getD 3 false = true → l.getD 0 false = true) ∧
    (l.getD 4 false = true → u6 = .map (some nb)) ∧
    (l.getD 5 false = true → u7 = (.agg #[.int .i64 1, .int .i64 1, .int .i64 0, .int .i64 1])) ∧
    (l.getD 6 false = true → l.getD 0 false = true) ∧
    (l.getD 7 false = true → u8 = .map (some nb)) ∧
    (l.getD 8 false = true → u9 = (.agg #[.int .i64 1, .int .i64 1, .int .i64 0, .int .i64 1])) ∧
    (l.getD 9 false = true → u10 = (.agg #[.int .i64 1, .int .i64 (-1), .int .i64 0, .int .i64 1])) ∧
    (l.getD 10 false = true → l.getD 0 false = true) ∧
    (l.getD 11 false = true → u11 = .map (some nb)) ∧
    (l.getD 12 false = true → u12 = (.agg #[.int .i64 1, .int .i64 0, .int .i64 1, .int .i64 1])) ∧
    (l.getD 13 false = true → l.getD 0 false = true) ∧
    (l.getD 14 false = true → u13 = .map (some nb)) ∧
    (l.getD 15 false = true → u14 = (.agg #[.int .i64 1, .int .i64 0, .int .i64 1, .int .i64 1])) ∧
    (l.getD 16 false = true → u15 = (.agg #[.int .i64 1, .int .i64 0, .int .i64 (-1), .int .i64 1])) ∧
    (l.getD 17 false = true → l.getD 0 false = true) ∧
    (l.getD 18 false = true → u16 = u3 ∧ l.getD 0 false = true) ∧
    (l.getD 19 false = true → u0 = u16 ∧ l.getD 18 false = true)
theorem invT (w : World) : Calls Tryd.prog 57 #[(.agg #[.int .i64 1, .int .i64 1, .int .i64 0, .int .i64 1])] w fun r w' => r = .returned (.agg #[.int .i64 1, .int .i64 (-1), .int .i64 0, .int .i64 1]) ∧ Below w.heap.size w w' := by
  have h := implInverse_ent 1 1 0 1 (by unfold Ent; omega) (by unfold Ent; omega) w
  exact h
theorem invL (w : World) : Calls Tryd.prog 57 #[(.agg #[.int .i64 1, .int .i64 0, .int .i64 1, .int .i64 1])] w fun r w' => r = .returned (.agg #[.int .i64 1, .int .i64 0, .int .i64 (-1), .int .i64 1]) ∧ Below w.heap.size w w' := by
  have h := implInverse_ent 1 0 1 1 (by unfold Ent; omega) (by unfold Ent; omega) w
  exact h
theorem nmWordL : namedF (.string [76]) = some ⟨1, 0, 1, 1⟩ := by simp [namedF]
theorem nmWordS : namedF (.string [83]) = some ⟨0, -1, 1, 0⟩ := by simp [namedF]
theorem nmWordT : namedF (.string [84]) = some ⟨1, 1, 0, 1⟩ := by simp [namedF]
theorem neWord (i : Nat) (h : i ≠ 3 ∧ i ≠ 6 ∧ i ≠ 10 ∧ i ≠ 13 ∧ i ≠ 17) : ∀ e ∈ esWord, e.1 ≠ i := by
  intro e he
  simp only [esWord, List.mem_cons, List.not_mem_nil, or_false] at he
  rcases he with rfl | rfl | rfl | rfl | rfl <;> (dsimp only; omega)
theorem upWord {l : Array Bool} {i j : Nat} (hi : i < l.size) (h : l.getD j false = true) : (l.setIfInBounds i true).getD j false = true := by
  rw [getD_set_any _ _ _ _ hi]
  split
  · rfl
  · exact h

set_option maxRecDepth 100000 in
set_option maxHeartbeats 4000000 in
theorem wordL_any (w : World) (hid : Idn w) (hmx : MxS w) :
    Calls Tryd.prog 28 #[] w fun e w' => (∃ b n, e = .returned (.map (some b)) ∧ LMn w' 52 5 b (ltA esWord) n) ∧ Below w.heap.size w w' := by
  go_enter Tryd.func28, Tryd.ntmps28
  go_wp2_with fail
  refine (named_any w hid hmx).mono ?_
  rintro e w1 ⟨rfl, hN, T1⟩
  go_upto_region 2 with fail
  have HN := Lib.hid hN
  have HT := Lib.hid T1
  obtain ⟨nb, hnb⟩ : ∃ nb, w.heap.size = nb := ⟨_, rfl⟩
  rw [hnb] at HN ⊢
  have hnl : nb < w1.heap.size := HN.out.lt
  clear hN T1
  refine wp_region_inv (by kernel_rfl) (WordI w1.heap.size nb w1 []) ?_ ?_ ?_ ?_
  · exact ⟨_, _, _, _, _, _, _, _, _, _, _, _, _, _, _, rfl, own_drew (own_refl w1), (fun h => absurd h (by decide)), (fun h => absurd h (by decide)), (fun h => absurd h (by decide)), (fun h => absurd h (by decide)), (fun h => absurd h (by decide)), (fun h => absurd h (by decide)), (fun h => absurd h (by decide)), (fun h => absurd h (by decide)), (fun h => absurd h (by decide)), (fun h => absurd h (by decide)), (fun h => absurd h (by decide)), (fun h => absurd h (by decide)), (fun h => absurd h (by decide)), (fun h => absurd h (by decide)), (fun h => absurd h (by decide)), (fun h => absurd h (by decide)), (fun h => absurd h (by decide)), (fun h => absurd h (by decide)), (fun h => absurd h (by decide)), (fun h => absurd h (by decide))⟩
  · intro l a w' i o hl ho hi hun haft hI K' hK
    have hlt : i < l.size := by rw [hl]; exact hi
    have hl2 : l.size = 20 := hl
    have hi2 : i < 20 := hi
    obtain ⟨u0, u3, u4, u5, u6, u7, u8, u9, u10, u11, u12, u13, u14, u15, u16, rfl, T, C0, C1, C2, C3, C4, C5, C6, C7, C8, C9, C10, C11, C12, C13, C14, C15, C16, C17, C18, C19⟩ := hI
    have hNw := HN.out.below T
    by_cases e0 : i = 0
    · subst e0
      obtain rfl := Option.some.inj (ho.symm.trans rfl)
      clear ho hi hi2
      skip
      have hmm := @run_makeMap Tryd.prog
      have HC := Lib.hid (MP.made (es := esWord) w' T.size hlt (neWord 0 (by decide)) (by
        intro e he
        simp only [esWord, List.mem_cons, List.not_mem_nil, or_false] at he
        rcases he with rfl | rfl | rfl | rfl | rfl
        · exact Bool.eq_false_iff.2 fun h => by rw [C3 h] at hun; cases hun
        · exact Bool.eq_false_iff.2 fun h => by rw [C6 h] at hun; cases hun
        · exact Bool.eq_false_iff.2 fun h => by rw [C10 h] at hun; cases hun
        · exact Bool.eq_false_iff.2 fun h => by rw [C13 h] at hun; cases hun
        · exact Bool.eq_false_iff.2 fun h => by rw [C17 h] at hun; cases hun))
      go_simp
      refine hK.out _ _ ?_
      exact ⟨_, _, _, _, _, _, _, _, _, _, _, _, _, _, _, rfl, own_alloc T _, (fun _ => HC.out), keepC hlt (by decide) C1, keepC hlt (by decide) C2, keepC hlt (by decide) (fun h => upWord hlt (C3 h)), keepC hlt (by decide) C4, keepC hlt (by decide) C5, keepC hlt (by decide) (fun h => upWord hlt (C6 h)), keepC hlt (by decide) C7, keepC hlt (by decide) C8, keepC hlt (by decide) C9, keepC hlt (by decide) (fun h => upWord hlt (C10 h)), keepC hlt (by decide) C11, keepC hlt (by decide) C12, keepC hlt (by decide) (fun h => upWord hlt (C13 h)), keepC hlt (by decide) C14, keepC hlt (by decide) C15, keepC hlt (by decide) C16, keepC hlt (by decide) (fun h => upWord hlt (C17 h)), keepC hlt (by decide) (fun h => absurd (C18 h).2 (by rw [hun]; decide)), keepC hlt (by decide) (fun h => ⟨(C19 h).1, upWord hlt (C19 h).2⟩)⟩
    by_cases e1 : i = 1
    · subst e1
      obtain rfl := Option.some.inj (ho.symm.trans rfl)
      clear ho hi hi2
      go_simp
      refine hK.out _ _ ?_
      exact ⟨_, _, _, _, _, _, _, _, _, _, _, _, _, _, _, rfl, T, keepC hlt (by decide) (fun h0 => (C0 h0).keep hlt hun (neWord 1 (by decide)) (Below.refl _ _)), (fun _ => rfl), keepC hlt (by decide) C2, keepC hlt (by decide) (fun h => upWord hlt (C3 h)), keepC hlt (by decide) C4, keepC hlt (by decide) C5, keepC hlt (by decide) (fun h => upWord hlt (C6 h)), keepC hlt (by decide) C7, keepC hlt (by decide) C8, keepC hlt (by decide) C9, keepC hlt (by decide) (fun h => upWord hlt (C10 h)), keepC hlt (by decide) C11, keepC hlt (by decide) C12, keepC hlt (by decide) (fun h => upWord hlt (C13 h)), keepC hlt (by decide) C14, keepC hlt (by decide) C15, keepC hlt (by decide) C16, keepC hlt (by decide) (fun h => upWord hlt (C17 h)), keepC hlt (by decide) (fun h => ⟨(C18 h).1, upWord hlt (C18 h).2⟩), keepC hlt (by decide) (fun h => ⟨(C19 h).1, upWord hlt (C19 h).2⟩)⟩
    by_cases e2 : i = 2
    · subst e2
      obtain rfl := Option.some.inj (ho.symm.trans rfl)
      clear ho hi hi2
      have d1 := haft { on := 1, ground := .data } (by simp) rfl
      obtain rfl := C1 d1
      have hlk := hNw.look1 str_keyed (.string ⟨#[83]⟩) (.string [83]) (str_key _ (by decide))
      rw [nmWordS] at hlk
      simp only [Option.getD_some, matV] at hlk
      go_simp
      refine hK.out _ _ ?_
      exact ⟨_, _, _, _, _, _, _, _, _, _, _, _, _, _, _, rfl, T, keepC hlt (by decide) (fun h0 => (C0 h0).keep hlt hun (neWord 2 (by decide)) (Below.refl _ _)), keepC hlt (by decide) C1, (fun _ => rfl), keepC hlt (by decide) (fun h => upWord hlt (C3 h)), keepC hlt (by decide) C4, keepC hlt (by decide) C5, keepC hlt (by decide) (fun h => upWord hlt (C6 h)), keepC hlt (by decide) C7, keepC hlt (by decide) C8, keepC hlt (by decide) C9, keepC hlt (by decide) (fun h => upWord hlt (C10 h)), keepC hlt (by decide) C11, keepC hlt (by decide) C12, keepC hlt (by decide) (fun h => upWord hlt (C13 h)), keepC hlt (by decide) C14, keepC hlt (by decide) C15, keepC hlt (by decide) C16, keepC hlt (by decide) (fun h => upWord hlt (C17 h)), keepC hlt (by decide) (fun h => ⟨(C18 h).1, upWord hlt (C18 h).2⟩), keepC hlt (by decide) (fun h => ⟨(C19 h).1, upWord hlt (C19 h).2⟩)⟩
    by_cases e3 : i = 3
    · subst e3
      obtain rfl := Option.some.inj (ho.symm.trans rfl)
      clear ho hi hi2
      have d0 := haft { on := 0, ground := .data } (by simp) rfl
      have d1 := haft { on := 2, ground := .data } (by simp) rfl
      obtain rfl := C2 d1
      obtain ⟨b, w2, hu, r2, hM2, T2⟩ := (C0 d0).put (i := 3) (c := 83) (m := ⟨0, -1, 1, 0⟩) hlt (by omega) hun (by simp [esWord]) (by decide) (by decide) w1 rfl T
      subst hu
      have r3 : (Instr.mapUpdate 52 (.map (some b)) (.int .u8 83) (.agg #[.int .i64 0, .int .i64 (-1), .int .i64 1, .int .i64 0])).run Tryd.prog w' = .ok () w2 := r2
      clear r2
      go_simp
      refine hK.out _ _ ?_
      exact ⟨_, _, _, _, _, _, _, _, _, _, _, _, _, _, _, rfl, T2, (fun _ => hM2), keepC hlt (by decide) C1, keepC hlt (by decide) C2, (fun _ => upWord hlt d0), keepC hlt (by decide) C4, keepC hlt (by decide) C5, keepC hlt (by decide) (fun h => upWord hlt (C6 h)), keepC hlt (by decide) C7, keepC hlt (by decide) C8, keepC hlt (by decide) C9, keepC hlt (by decide) (fun h => upWord hlt (C10 h)), keepC hlt (by decide) C11, keepC hlt (by decide) C12, keepC hlt (by decide) (fun h => upWord hlt (C13 h)), keepC hlt (by decide) C14, keepC hlt (by decide) C15, keepC hlt (by decide) C16, keepC hlt (by decide) (fun h => upWord hlt (C17 h)), keepC hlt (by decide) (fun h => ⟨(C18 h).1, upWord hlt (C18 h).2⟩), keepC hlt (by decide) (fun h => ⟨(C19 h).1, upWord hlt (C19 h).2⟩)⟩
    by_cases e4 : i = 4
    · subst e4
      obtain rfl := Option.some.inj (ho.symm.trans rfl)
      clear ho hi hi2
      go_simp
      refine hK.out _ _ ?_
      exact ⟨_, _, _, _, _, _, _, _, _, _, _, _, _, _, _, rfl, T, keepC hlt (by decide) (fun h0 => (C0 h0).keep hlt hun (neWord 4 (by decide)) (Below.refl _ _)), keepC hlt (by decide) C1, keepC hlt (by decide) C2, keepC hlt (by decide) (fun h => upWord hlt (C3 h)), (fun _ => rfl), keepC hlt (by decide) C5, keepC hlt (by decide) (fun h => upWord hlt (C6 h)), keepC hlt (by decide) C7, keepC hlt (by decide) C8, keepC hlt (by decide) C9, keepC hlt (by decide) (fun h => upWord hlt (C10 h)), keepC hlt (by decide) C11, keepC hlt (by decide) C12, keepC hlt (by decide) (fun h => upWord hlt (C13 h)), keepC hlt (by decide) C14, keepC hlt (by decide) C15, keepC hlt (by decide) C16, keepC hlt (by decide) (fun h => upWord hlt (C17 h)), keepC hlt (by decide) (fun h => ⟨(C18 h).1, upWord hlt (C18 h).2⟩), keepC hlt (by decide) (fun h => ⟨(C19 h).1, upWord hlt (C19 h).2⟩)⟩
    by_cases e5 : i = 5
    · subst e5
      obtain rfl := Option.some.inj (ho.symm.trans rfl)
      clear ho hi hi2
      have d1 := haft { on := 4, ground := .data } (by simp) rfl
      obtain rfl := C4 d1
      have hlk := hNw.look1 str_keyed (.string ⟨#[84]⟩) (.string [84]) (str_key _ (by decide))
      rw [nmWordT] at hlk
      simp only [Option.getD_some, matV] at hlk
      go_simp
      refine hK.out _ _ ?_
      exact ⟨_, _, _, _, _, _, _, _, _, _, _, _, _, _, _, rfl, T, keepC hlt (by decide) (fun h0 => (C0 h0).keep hlt hun (neWord 5 (by decide)) (Below.refl _ _)), keepC hlt (by decide) C1, keepC hlt (by decide) C2, keepC hlt (by decide) (fun h => upWord hlt (C3 h)), keepC hlt (by decide) C4, (fun _ => rfl), keepC hlt (by decide) (fun h => upWord hlt (C6 h)), keepC hlt (by decide) C7, keepC hlt (by decide) C8, keepC hlt (by decide) C9, keepC hlt (by decide) (fun h => upWord hlt (C10 h)), keepC hlt (by decide) C11, keepC hlt (by decide) C12, keepC hlt (by decide) (fun h => upWord hlt (C13 h)), keepC hlt (by decide) C14, keepC hlt (by decide) C15, keepC hlt (by decide) C16, keepC hlt (by decide) (fun h => upWord hlt (C17 h)), keepC hlt (by decide) (fun h => ⟨(C18 h).1, upWord hlt (C18 h).2⟩), keepC hlt (by decide) (fun h => ⟨(C19 h).1, upWord hlt (C19 h).2⟩)⟩
    by_cases e6 : i = 6
    · subst e6
      obtain rfl := Option.some.inj (ho.symm.trans rfl)
      clear ho hi hi2
      have d0 := haft { on := 0, ground := .data } (by simp) rfl
      have d1 := haft { on := 5, ground := .data } (by simp) rfl
      obtain rfl := C5 d1
      obtain ⟨b, w2, hu, r2, hM2, T2⟩ := (C0 d0).put (i := 6) (c := 84) (m := ⟨1, 1, 0, 1⟩) hlt (by omega) hun (by simp [esWord]) (by decide) (by decide) w1 rfl T
      subst hu
      have r3 : (Instr.mapUpdate 52 (.map (some b)) (.int .u8 84) (.agg #[.int .i64 1, .int .i64 1, .int .i64 0, .int .i64 1])).run Tryd.prog w' = .ok () w2 := r2
      clear r2
      go_simp
      refine hK.out _ _ ?_
      exact ⟨_, _, _, _, _, _, _, _, _, _, _, _, _, _, _, rfl, T2, (fun _ => hM2), keepC hlt (by decide) C1, keepC hlt (by decide) C2, keepC hlt (by decide) (fun h => upWord hlt (C3 h)), keepC hlt (by decide) C4, keepC hlt (by decide) C5, (fun _ => upWord hlt d0), keepC hlt (by decide) C7, keepC hlt (by decide) C8, keepC hlt (by decide) C9, keepC hlt (by decide) (fun h => upWord hlt (C10 h)), keepC hlt (by decide) C11, keepC hlt (by decide) C12, keepC hlt (by decide) (fun h => upWord hlt (C13 h)), keepC hlt (by decide) C14, keepC hlt (by decide) C15, keepC hlt (by decide) C16, keepC hlt (by decide) (fun h => upWord hlt (C17 h)), keepC hlt (by decide) (fun h => ⟨(C18 h).1, upWord hlt (C18 h).2⟩), keepC hlt (by decide) (fun h => ⟨(C19 h).1, upWord hlt (C19 h).2⟩)⟩
    by_cases e7 : i = 7
    · subst e7
      obtain rfl := Option.some.inj (ho.symm.trans rfl)
      clear ho hi hi2
      go_simp
      refine hK.out _ _ ?_
      exact ⟨_, _, _, _, _, _, _, _, _, _, _, _, _, _, _, rfl, T, keepC hlt (by decide) (fun h0 => (C0 h0).keep hlt hun (neWord 7 (by decide)) (Below.refl _ _)), keepC hlt (by decide) C1, keepC hlt (by decide) C2, keepC hlt (by decide) (fun h => upWord hlt (C3 h)), keepC hlt (by decide) C4, keepC hlt (by decide) C5, keepC hlt (by decide) (fun h => upWord hlt (C6 h)), (fun _ => rfl), keepC hlt (by decide) C8, keepC hlt (by decide) C9, keepC hlt (by decide) (fun h => upWord hlt (C10 h)), keepC hlt (by decide) C11, keepC hlt (by decide) C12, keepC hlt (by decide) (fun h => upWord hlt (C13 h)), keepC hlt (by decide) C14, keepC hlt (by decide) C15, keepC hlt (by decide) C16, keepC hlt (by decide) (fun h => upWord hlt (C17 h)), keepC hlt (by decide) (fun h => ⟨(C18 h).1, upWord hlt (C18 h).2⟩), keepC hlt (by decide) (fun h => ⟨(C19 h).1, upWord hlt (C19 h).2⟩)⟩
    by_cases e8 : i = 8
    · subst e8
      obtain rfl := Option.some.inj (ho.symm.trans rfl)
      clear ho hi hi2
      have d1 := haft { on := 7, ground := .data } (by simp) rfl
      obtain rfl := C7 d1
      have hlk := hNw.look1 str_keyed (.string ⟨#[84]⟩) (.string [84]) (str_key _ (by decide))
      rw [nmWordT] at hlk
      simp only [Option.getD_some, matV] at hlk
      go_simp
      refine hK.out _ _ ?_
      exact ⟨_, _, _, _, _, _, _, _, _, _, _, _, _, _, _, rfl, T, keepC hlt (by decide) (fun h0 => (C0 h0).keep hlt hun (neWord 8 (by decide)) (Below.refl _ _)), keepC hlt (by decide) C1, keepC hlt (by decide) C2, keepC hlt (by decide) (fun h => upWord hlt (C3 h)), keepC hlt (by decide) C4, keepC hlt (by decide) C5, keepC hlt (by decide) (fun h => upWord hlt (C6 h)), keepC hlt (by decide) C7, (fun _ => rfl), keepC hlt (by decide) C9, keepC hlt (by decide) (fun h => upWord hlt (C10 h)), keepC hlt (by decide) C11, keepC hlt (by decide) C12, keepC hlt (by decide) (fun h => upWord hlt (C13 h)), keepC hlt (by decide) C14, keepC hlt (by decide) C15, keepC hlt (by decide) C16, keepC hlt (by decide) (fun h => upWord hlt (C17 h)), keepC hlt (by decide) (fun h => ⟨(C18 h).1, upWord hlt (C18 h).2⟩), keepC hlt (by decide) (fun h => ⟨(C19 h).1, upWord hlt (C19 h).2⟩)⟩
    by_cases e9 : i = 9
    · subst e9
      obtain rfl := Option.some.inj (ho.symm.trans rfl)
      clear ho hi hi2
      have d0 := haft { on := 8, ground := .data } (by simp) rfl
      obtain rfl := C8 d0
      go_simp
      refine (invT _).mono ?_
      rintro e w2 ⟨rfl, hb2⟩
      refine hK.out _ _ ?_
      exact ⟨_, _, _, _, _, _, _, _, _, _, _, _, _, _, _, rfl, T.trans (hb2.mono T.size), keepC hlt (by decide) (fun h0 => (C0 h0).keep hlt hun (neWord 9 (by decide)) hb2), keepC hlt (by decide) C1, keepC hlt (by decide) C2, keepC hlt (by decide) (fun h => upWord hlt (C3 h)), keepC hlt (by decide) C4, keepC hlt (by decide) C5, keepC hlt (by decide) (fun h => upWord hlt (C6 h)), keepC hlt (by decide) C7, keepC hlt (by decide) C8, (fun _ => rfl), keepC hlt (by decide) (fun h => upWord hlt (C10 h)), keepC hlt (by decide) C11, keepC hlt (by decide) C12, keepC hlt (by decide) (fun h => upWord hlt (C13 h)), keepC hlt (by decide) C14, keepC hlt (by decide) C15, keepC hlt (by decide) C16, keepC hlt (by decide) (fun h => upWord hlt (C17 h)), keepC hlt (by decide) (fun h => ⟨(C18 h).1, upWord hlt (C18 h).2⟩), keepC hlt (by decide) (fun h => ⟨(C19 h).1, upWord hlt (C19 h).2⟩)⟩
    by_cases e10 : i = 10
    · subst e10
      obtain rfl := Option.some.inj (ho.symm.trans rfl)
      clear ho hi hi2
      have d0 := haft { on := 0, ground := .data } (by simp) rfl
      have d1 := haft { on := 9, ground := .data } (by simp) rfl
      obtain rfl := C9 d1
      obtain ⟨b, w2, hu, r2, hM2, T2⟩ := (C0 d0).put (i := 10) (c := 116) (m := ⟨1, -1, 0, 1⟩) hlt (by omega) hun (by simp [esWord]) (by decide) (by decide) w1 rfl T
      subst hu
      have r3 : (Instr.mapUpdate 52 (.map (some b)) (.int .u8 116) (.agg #[.int .i64 1, .int .i64 (-1), .int .i64 0, .int .i64 1])).run Tryd.prog w' = .ok () w2 := r2
      clear r2
      go_simp
      refine hK.out _ _ ?_
      exact ⟨_, _, _, _, _, _, _, _, _, _, _, _, _, _, _, rfl, T2, (fun _ => hM2), keepC hlt (by decide) C1, keepC hlt (by decide) C2, keepC hlt (by decide) (fun h => upWord hlt (C3 h)), keepC hlt (by decide) C4, keepC hlt (by decide) C5, keepC hlt (by decide) (fun h => upWord hlt (C6 h)), keepC hlt (by decide) C7, keepC hlt (by decide) C8, keepC hlt (by decide) C9, (fun _ => upWord hlt d0), keepC hlt (by decide) C11, keepC hlt (by decide) C12, keepC hlt (by decide) (fun h => upWord hlt (C13 h)), keepC hlt (by decide) C14, keepC hlt (by decide) C15, keepC hlt (by decide) C16, keepC hlt (by decide) (fun h => upWord hlt (C17 h)), keepC hlt (by decide) (fun h => ⟨(C18 h).1, upWord hlt (C18 h).2⟩), keepC hlt (by decide) (fun h => ⟨(C19 h).1, upWord hlt (C19 h).2⟩)⟩
    by_cases e11 : i = 11
    · subst e11
      obtain rfl := Option.some.inj (ho.symm.trans rfl)
      clear ho hi hi2
      go_simp
      refine hK.out _ _ ?_
      exact ⟨_, _, _, _, _, _, _, _, _, _, _, _, _, _, _, rfl, T, keepC hlt (by decide) (fun h0 => (C0 h0).keep hlt hun (neWord 11 (by decide)) (Below.refl _ _)), keepC hlt (by decide) C1, keepC hlt (by decide) C2, keepC hlt (by decide) (fun h => upWord hlt (C3 h)), keepC hlt (by decide) C4, keepC hlt (by decide) C5, keepC hlt (by decide) (fun h => upWord hlt (C6 h)), keepC hlt (by decide) C7, keepC hlt (by decide) C8, keepC hlt (by decide) C9, keepC hlt (by decide) (fun h => upWord hlt (C10 h)), (fun _ => rfl), keepC hlt (by decide) C12, keepC hlt (by decide) (fun h => upWord hlt (C13 h)), keepC hlt (by decide) C14, keepC hlt (by decide) C15, keepC hlt (by decide) C16, keepC hlt (by decide) (fun h => upWord hlt (C17 h)), keepC hlt (by decide) (fun h => ⟨(C18 h).1, upWord hlt (C18 h).2⟩), keepC hlt (by decide) (fun h => ⟨(C19 h).1, upWord hlt (C19 h).2⟩)⟩
    by_cases e12 : i = 12
    · subst e12
      obtain rfl := Option.some.inj (ho.symm.trans rfl)
      clear ho hi hi2
      have d1 := haft { on := 11, ground := .data } (by simp) rfl
      obtain rfl := C11 d1
      have hlk := hNw.look1 str_keyed (.string ⟨#[76]⟩) (.string [76]) (str_key _ (by decide))
      rw [nmWordL] at hlk
      simp only [Option.getD_some, matV] at hlk
      go_simp
      refine hK.out _ _ ?_
      exact ⟨_, _, _, _, _, _, _, _, _, _, _, _, _, _, _, rfl, T, keepC hlt (by decide) (fun h0 => (C0 h0).keep hlt hun (neWord 12 (by decide)) (Below.refl _ _)), keepC hlt (by decide) C1, keepC hlt (by decide) C2, keepC hlt (by decide) (fun h => upWord hlt (C3 h)), keepC hlt (by decide) C4, keepC hlt (by decide) C5, keepC hlt (by decide) (fun h => upWord hlt (C6 h)), keepC hlt (by decide) C7, keepC hlt (by decide) C8, keepC hlt (by decide) C9, keepC hlt (by decide) (fun h => upWord hlt (C10 h)), keepC hlt (by decide) C11, (fun _ => rfl), keepC hlt (by decide) (fun h => upWord hlt (C13 h)), keepC hlt (by decide) C14, keepC hlt (by decide) C15, keepC hlt (by decide) C16, keepC hlt (by decide) (fun h => upWord hlt (C17 h)), keepC hlt (by decide) (fun h => ⟨(C18 h).1, upWord hlt (C18 h).2⟩), keepC hlt (by decide) (fun h => ⟨(C19 h).1, upWord hlt (C19 h).2⟩)⟩
    by_cases e13 : i = 13
    · subst e13
      obtain rfl := Option.some.inj (ho.symm.trans rfl)
      clear ho hi hi2
      have d0 := haft { on := 0, ground := .data } (by simp) rfl
      have d1 := haft { on := 12, ground := .data } (by simp) rfl
      obtain rfl := C12 d1
      obtain ⟨b, w2, hu, r2, hM2, T2⟩ := (C0 d0).put (i := 13) (c := 76) (m := ⟨1, 0, 1, 1⟩) hlt (by omega) hun (by simp [esWord]) (by decide) (by decide) w1 rfl T
      subst hu
      have r3 : (Instr.mapUpdate 52 (.map (some b)) (.int .u8 76) (.agg #[.int .i64 1, .int .i64 0, .int .i64 1, .int .i64 1])).run Tryd.prog w' = .ok () w2 := r2
      clear r2
      go_simp
      refine hK.out _ _ ?_
      exact ⟨_, _, _, _, _, _, _, _, _, _, _, _, _, _, _, rfl, T2, (fun _ => hM2), keepC hlt (by decide) C1, keepC hlt (by decide) C2, keepC hlt (by decide) (fun h => upWord hlt (C3 h)), keepC hlt (by decide) C4, keepC hlt (by decide) C5, keepC hlt (by decide) (fun h => upWord hlt (C6 h)), keepC hlt (by decide) C7, keepC hlt (by decide) C8, keepC hlt (by decide) C9, keepC hlt (by decide) (fun h => upWord hlt (C10 h)), keepC hlt (by decide) C11, keepC hlt (by decide) C12, (fun _ => upWord hlt d0), keepC hlt (by decide) C14, keepC hlt (by decide) C15, keepC hlt (by decide) C16, keepC hlt (by decide) (fun h => upWord hlt (C17 h)), keepC hlt (by decide) (fun h => ⟨(C18 h).1, upWord hlt (C18 h).2⟩), keepC hlt (by decide) (fun h => ⟨(C19 h).1, upWord hlt (C19 h).2⟩)⟩
    by_cases e14 : i = 14
    · subst e14
      obtain rfl := Option.some.inj (ho.symm.trans rfl)
      clear ho hi hi2
      go_simp
      refine hK.out _ _ ?_
      exact ⟨_, _, _, _, _, _, _, _, _, _, _, _, _, _, _, rfl, T, keepC hlt (by decide) (fun h0 => (C0 h0).keep hlt hun (neWord 14 (by decide)) (Below.refl _ _)), keepC hlt (by decide) C1, keepC hlt (by decide) C2, keepC hlt (by decide) (fun h => upWord hlt (C3 h)), keepC hlt (by decide) C4, keepC hlt (by decide) C5, keepC hlt (by decide) (fun h => upWord hlt (C6 h)), keepC hlt (by decide) C7, keepC hlt (by decide) C8, keepC hlt (by decide) C9, keepC hlt (by decide) (fun h => upWord hlt (C10 h)), keepC hlt (by decide) C11, keepC hlt (by decide) C12, keepC hlt (by decide) (fun h => upWord hlt (C13 h)), (fun _ => rfl), keepC hlt (by decide) C15, keepC hlt (by decide) C16, keepC hlt (by decide) (fun h => upWord hlt (C17 h)), keepC hlt (by decide) (fun h => ⟨(C18 h).1, upWord hlt (C18 h).2⟩), keepC hlt (by decide) (fun h => ⟨(C19 h).1, upWord hlt (C19 h).2⟩)⟩
    by_cases e15 : i = 15
    · subst e15
      obtain rfl := Option.some.inj (ho.symm.trans rfl)
      clear ho hi hi2
      have d1 := haft { on := 14, ground := .data } (by simp) rfl
      obtain rfl := C14 d1
      have hlk := hNw.look1 str_keyed (.string ⟨#[76]⟩) (.string [76]) (str_key _ (by decide))
      rw [nmWordL] at hlk
      simp only [Option.getD_some, matV] at hlk
      go_simp
      refine hK.out _ _ ?_
      exact ⟨_, _, _, _, _, _, _, _, _, _, _, _, _, _, _, rfl, T, keepC hlt (by decide) (fun h0 => (C0 h0).keep hlt hun (neWord 15 (by decide)) (Below.refl _ _)), keepC hlt (by decide) C1, keepC hlt (by decide) C2, keepC hlt (by decide) (fun h => upWord hlt (C3 h)), keepC hlt (by decide) C4, keepC hlt (by decide) C5, keepC hlt (by decide) (fun h => upWord hlt (C6 h)), keepC hlt (by decide) C7, keepC hlt (by decide) C8, keepC hlt (by decide) C9, keepC hlt (by decide) (fun h => upWord hlt (C10 h)), keepC hlt (by decide) C11, keepC hlt (by decide) C12, keepC hlt (by decide) (fun h => upWord hlt (C13 h)), keepC hlt (by decide) C14, (fun _ => rfl), keepC hlt (by decide) C16, keepC hlt (by decide) (fun h => upWord hlt (C17 h)), keepC hlt (by decide) (fun h => ⟨(C18 h).1, upWord hlt (C18 h).2⟩), keepC hlt (by decide) (fun h => ⟨(C19 h).1, upWord hlt (C19 h).2⟩)⟩
    by_cases e16 : i = 16
    · subst e16
      obtain rfl := Option.some.inj (ho.symm.trans rfl)
      clear ho hi hi2
      have d0 := haft { on := 15, ground := .data } (by simp) rfl
      obtain rfl := C15 d0
      go_simp
      refine (invL _).mono ?_
      rintro e w2 ⟨rfl, hb2⟩
      refine hK.out _ _ ?_
      exact ⟨_, _, _, _, _, _, _, _, _, _, _, _, _, _, _, rfl, T.trans (hb2.mono T.size), keepC hlt (by decide) (fun h0 => (C0 h0).keep hlt hun (neWord 16 (by decide)) hb2), keepC hlt (by decide) C1, keepC hlt (by decide) C2, keepC hlt (by decide) (fun h => upWord hlt (C3 h)), keepC hlt (by decide) C4, keepC hlt (by decide) C5, keepC hlt (by decide) (fun h => upWord hlt (C6 h)), keepC hlt (by decide) C7, keepC hlt (by decide) C8, keepC hlt (by decide) C9, keepC hlt (by decide) (fun h => upWord hlt (C10 h)), keepC hlt (by decide) C11, keepC hlt (by decide) C12, keepC hlt (by decide) (fun h => upWord hlt (C13 h)), keepC hlt (by decide) C14, keepC hlt (by decide) C15, (fun _ => rfl), keepC hlt (by decide) (fun h => upWord hlt (C17 h)), keepC hlt (by decide) (fun h => ⟨(C18 h).1, upWord hlt (C18 h).2⟩), keepC hlt (by decide) (fun h => ⟨(C19 h).1, upWord hlt (C19 h).2⟩)⟩
    by_cases e17 : i = 17
    · subst e17
      obtain rfl := Option.some.inj (ho.symm.trans rfl)
      clear ho hi hi2
      have d0 := haft { on := 0, ground := .data } (by simp) rfl
      have d1 := haft { on := 16, ground := .data } (by simp) rfl
      obtain rfl := C16 d1
      obtain ⟨b, w2, hu, r2, hM2, T2⟩ := (C0 d0).put (i := 17) (c := 108) (m := ⟨1, 0, -1, 1⟩) hlt (by omega) hun (by simp [esWord]) (by decide) (by decide) w1 rfl T
      subst hu
      have r3 : (Instr.mapUpdate 52 (.map (some b)) (.int .u8 108) (.agg #[.int .i64 1, .int .i64 0, .int .i64 (-1), .int .i64 1])).run Tryd.prog w' = .ok () w2 := r2
      clear r2
      go_simp
      refine hK.out _ _ ?_
      exact ⟨_, _, _, _, _, _, _, _, _, _, _, _, _, _, _, rfl, T2, (fun _ => hM2), keepC hlt (by decide) C1, keepC hlt (by decide) C2, keepC hlt (by decide) (fun h => upWord hlt (C3 h)), keepC hlt (by decide) C4, keepC hlt (by decide) C5, keepC hlt (by decide) (fun h => upWord hlt (C6 h)), keepC hlt (by decide) C7, keepC hlt (by decide) C8, keepC hlt (by decide) C9, keepC hlt (by decide) (fun h => upWord hlt (C10 h)), keepC hlt (by decide) C11, keepC hlt (by decide) C12, keepC hlt (by decide) (fun h => upWord hlt (C13 h)), keepC hlt (by decide) C14, keepC hlt (by decide) C15, keepC hlt (by decide) C16, (fun _ => upWord hlt d0), keepC hlt (by decide) (fun h => ⟨(C18 h).1, upWord hlt (C18 h).2⟩), keepC hlt (by decide) (fun h => ⟨(C19 h).1, upWord hlt (C19 h).2⟩)⟩
    by_cases e18 : i = 18
    · subst e18
      obtain rfl := Option.some.inj (ho.symm.trans rfl)
      clear ho hi hi2
      have d0 := haft { on := 0, ground := .data } (by simp) rfl
      go_simp
      refine hK.out _ _ ?_
      exact ⟨_, _, _, _, _, _, _, _, _, _, _, _, _, _, _, rfl, T, keepC hlt (by decide) (fun h0 => (C0 h0).keep hlt hun (neWord 18 (by decide)) (Below.refl _ _)), keepC hlt (by decide) C1, keepC hlt (by decide) C2, keepC hlt (by decide) (fun h => upWord hlt (C3 h)), keepC hlt (by decide) C4, keepC hlt (by decide) C5, keepC hlt (by decide) (fun h => upWord hlt (C6 h)), keepC hlt (by decide) C7, keepC hlt (by decide) C8, keepC hlt (by decide) C9, keepC hlt (by decide) (fun h => upWord hlt (C10 h)), keepC hlt (by decide) C11, keepC hlt (by decide) C12, keepC hlt (by decide) (fun h => upWord hlt (C13 h)), keepC hlt (by decide) C14, keepC hlt (by decide) C15, keepC hlt (by decide) C16, keepC hlt (by decide) (fun h => upWord hlt (C17 h)), (fun _ => ⟨rfl, upWord hlt d0⟩), keepC hlt (by decide) (fun h => absurd (C19 h).2 (by rw [hun]; decide))⟩
    by_cases e19 : i = 19
    · subst e19
      obtain rfl := Option.some.inj (ho.symm.trans rfl)
      clear ho hi hi2
      have d0 := haft { on := 18, ground := .data } (by simp) rfl
      obtain ⟨q0, _⟩ := C18 d0
      subst q0
      go_simp
      refine hK.out _ _ ?_
      exact ⟨_, _, _, _, _, _, _, _, _, _, _, _, _, _, _, rfl, T, keepC hlt (by decide) (fun h0 => (C0 h0).keep hlt hun (neWord 19 (by decide)) (Below.refl _ _)), keepC hlt (by decide) C1, keepC hlt (by decide) C2, keepC hlt (by decide) (fun h => upWord hlt (C3 h)), keepC hlt (by decide) C4, keepC hlt (by decide) C5, keepC hlt (by decide) (fun h => upWord hlt (C6 h)), keepC hlt (by decide) C7, keepC hlt (by decide) C8, keepC hlt (by decide) C9, keepC hlt (by decide) (fun h => upWord hlt (C10 h)), keepC hlt (by decide) C11, keepC hlt (by decide) C12, keepC hlt (by decide) (fun h => upWord hlt (C13 h)), keepC hlt (by decide) C14, keepC hlt (by decide) C15, keepC hlt (by decide) C16, keepC hlt (by decide) (fun h => upWord hlt (C17 h)), keepC hlt (by decide) (fun h => ⟨(C18 h).1, upWord hlt (C18 h).2⟩), (fun _ => ⟨rfl, upWord hlt d0⟩)⟩
    omega
  · decide
  · intro l a w' hall hI
    obtain ⟨u0, u3, u4, u5, u6, u7, u8, u9, u10, u11, u12, u13, u14, u15, u16, rfl, T, C0, C1, C2, C3, C4, C5, C6, C7, C8, C9, C10, C11, C12, C13, C14, C15, C16, C17, C18, C19⟩ := hI
    obtain ⟨b, n, hu, hb, hn, hL⟩ := C0 (hall 0 (by decide))
    obtain ⟨e1, _⟩ := C18 (hall 18 (by decide))
    obtain ⟨e2, _⟩ := C19 (hall 19 (by decide))
    subst e2 e1 hu
    have hA := ltF_all (es := esWord) (l := l) (by
      intro e he
      simp only [esWord, List.mem_cons, List.not_mem_nil, or_false] at he
      rcases he with rfl | rfl | rfl | rfl | rfl
      · exact hall 3 (by decide)
      · exact hall 6 (by decide)
      · exact hall 10 (by decide)
      · exact hall 13 (by decide)
      · exact hall 17 (by decide))
    have HL : Hid (LMn w' 52 5 b (ltA esWord) n) := Lib.hid (by rw [← hA]; exact hL)
    have HT2 := Lib.hid (HT.out.trans (T.mono HT.out.size))
    clear hL hA C0 C1 C2 C3 C4 C5 C6 C7 C8 C9 C10 C11 C12 C13 C14 C15 C16 C17 C18 C19 hall hn T
    go_wp2
    go_ret
    exact ⟨⟨b, n, rfl, HL.out⟩, HT2.out⟩
end Go.Proofs.YtfchfakkbdfajaaDoor
