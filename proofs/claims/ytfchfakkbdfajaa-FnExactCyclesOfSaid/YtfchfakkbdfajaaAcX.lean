/- Equal groups: both sides, and the law's walk. -/
import Derived.Test.YtfchfakkbdfajaaAcE
namespace Go.Proofs.Ytfchfakkbdfajaa
open Go.ChangeShapes Go.WideShapes Go.ChangeAt Go.RowKit

theorem form_at {u : Value} {s t : List Int} (ia : IsA s t s.length) {w : World} (hu : Ac w u s t) (w' : World) (hb : Below w.heap.size w w') :
    Calls Try.prog 55 #[u, (.int .i64 0)] w' fun e w'' => ∃ v, e = .returned v ∧ AcR w'' w'.heap.size v (frm s t 0 s.length s) (frm s t 0 s.length t) ∧ Below w'.heap.size w' w'' := by
  obtain ⟨x, y, rfl, hx, hy⟩ := hu.below hb
  exact form_is x y s t s.length (by have := ia.n72; omega) ia.n1 ia.pS ia.pT 0 ia.n1 w' hx hy
theorem l10Form_at {u : Value} {s t : List Int} (ia : IsA s t s.length) {w : World} (hu : Ac w u s t) (w' : World) (hb : Below w.heap.size w w') :
    Calls Try.prog 53 #[u, (.int .i64 0)] w' fun e w'' => ∃ v, e = .returned v ∧ AcR w'' w'.heap.size v (frm s t 0 s.length s) (frm s t 0 s.length t) ∧ Below w'.heap.size w' w'' := by
  obtain ⟨x, y, rfl, hx, hy⟩ := hu.below hb
  exact l10Form_is x y s t s.length (by have := ia.n72; omega) ia.n1 ia.pS ia.pT 0 ia.n1 w' hx hy
/-- whether the forms from 0 are equal -/
def eqG (s t s' t' : List Int) : Bool := decide (frm s t 0 s.length s = frm s' t' 0 s'.length s' ∧ frm s t 0 s.length t = frm s' t' 0 s'.length t')
def RetHE (s t s' t' : List Int) (w : World) (e : Ending) (w' : World) : Prop :=
  e = .returned (.tuple #[.bool (isA s t && isA s' t' && eqG s t s' t'), (.int .i64 (if isA s t && isA s' t' then 0 else 1))]) ∧ Below w.heap.size w w'
theorem HEi_no1 (s t s' t' : List Int) (h1 : s.length ≤ 9223372036854775807) (h2 : s'.length ≤ 9223372036854775807) (hA : isA s t = false) (u v : Value) (w : World) (hu : Ac w u s t) (hv : Ac w v s' t') : Calls Try.prog 35 #[u, v] w (RetHE s t s' t' w) := by
  have HI1 := Lib.hid (isA_at u s t h1 w hu)
  have HI2 := Lib.hid (isA_at v s' t' h2 w hv)
  rw [hA] at HI1
  have HR : Hid (∀ w', Below w.heap.size w w' → RetHE s t s' t' w (.returned (.tuple #[.bool false, (.int .i64 1)])) w') := Lib.hid (fun w' hb => by unfold RetHE; rw [hA]; exact ⟨rfl, hb⟩)
  obtain ⟨ad, c, ad', c', rfl⟩ := hu.shape
  obtain ⟨bd, d, bd', d', rfl⟩ := hv.shape
  clear hu hv hA
  generalize s.length = n at *
  generalize t.length = m at *
  generalize s'.length = p at *
  generalize t'.length = q at *
  go_enter Try.func35, Try.ntmps35
  go_wp2_with fail
  refine (HI1.out _ (by repeat (first | with_reducible exact own_refl _ | with_reducible assumption | with_reducible apply own_alloc | with_reducible apply own_drewN | with_reducible apply own_drew | ((with_reducible refine own_setCell ?_ ?_ _); rotate_left; focus (first | (simp; done) | (simp; omega))) | (with_reducible (refine own_trans ?_ (by assumption)))))).mono ?_
  rintro e w2 ⟨rfl, hb2⟩
  have T2 : Below w.heap.size w w2 := by repeat (first | with_reducible exact own_refl _ | with_reducible assumption | with_reducible apply own_alloc | with_reducible apply own_drewN | with_reducible apply own_drew | ((with_reducible refine own_setCell ?_ ?_ _); rotate_left; focus (first | (simp; done) | (simp; omega))) | (with_reducible (refine own_trans ?_ (by assumption))))
  go_wp2
  go_ret2
  exact HR.out _ T2

theorem HEi_no2 (s t s' t' : List Int) (h1 : s.length ≤ 9223372036854775807) (h2 : s'.length ≤ 9223372036854775807) (hA : isA s t = true) (hB : isA s' t' = false) (u v : Value) (w : World) (hu : Ac w u s t) (hv : Ac w v s' t') : Calls Try.prog 35 #[u, v] w (RetHE s t s' t' w) := by
  have HI1 := Lib.hid (isA_at u s t h1 w hu)
  have HI2 := Lib.hid (isA_at v s' t' h2 w hv)
  rw [hA] at HI1
  rw [hB] at HI2
  have HR : Hid (∀ w', Below w.heap.size w w' → RetHE s t s' t' w (.returned (.tuple #[.bool false, (.int .i64 1)])) w') := Lib.hid (fun w' hb => by unfold RetHE; rw [hA, hB]; exact ⟨rfl, hb⟩)
  obtain ⟨ad, c, ad', c', rfl⟩ := hu.shape
  obtain ⟨bd, d, bd', d', rfl⟩ := hv.shape
  clear hu hv hA hB
  generalize s.length = n at *
  generalize t.length = m at *
  generalize s'.length = p at *
  generalize t'.length = q at *
  go_enter Try.func35, Try.ntmps35
  go_wp2_with fail
  refine (HI1.out _ (by repeat (first | with_reducible exact own_refl _ | with_reducible assumption | with_reducible apply own_alloc | with_reducible apply own_drewN | with_reducible apply own_drew | ((with_reducible refine own_setCell ?_ ?_ _); rotate_left; focus (first | (simp; done) | (simp; omega))) | (with_reducible (refine own_trans ?_ (by assumption)))))).mono ?_
  rintro e w2 ⟨rfl, hb2⟩
  have T2 : Below w.heap.size w w2 := by repeat (first | with_reducible exact own_refl _ | with_reducible assumption | with_reducible apply own_alloc | with_reducible apply own_drewN | with_reducible apply own_drew | ((with_reducible refine own_setCell ?_ ?_ _); rotate_left; focus (first | (simp; done) | (simp; omega))) | (with_reducible (refine own_trans ?_ (by assumption))))
  have Bw2_0 : Box w2 (w.heap.size) [.slice ad n c, .slice ad' m c'] := by refine Box.below ?_ hb2; repeat (first | with_reducible assumption | with_reducible exact Box.new _ _ _ | (with_reducible refine Box.newAt ?_ _ _; (simp; done)) | with_reducible apply Box.alloc | with_reducible apply Box.drewN | with_reducible apply Box.drew)
  obtain ⟨_, _, _, _, _⟩ := Bw2_0.two
  have Bw2_1 : Box w2 (w.heap.size + 1) [.slice bd p d, .slice bd' q d'] := by refine Box.below ?_ hb2; repeat (first | with_reducible assumption | with_reducible exact Box.new _ _ _ | (with_reducible refine Box.newAt ?_ _ _; (simp; done)) | with_reducible apply Box.alloc | with_reducible apply Box.drewN | with_reducible apply Box.drew)
  obtain ⟨_, _, _, _, _⟩ := Bw2_1.two
  go_wp2_with fail
  refine (HI2.out _ T2).mono ?_
  rintro e w3 ⟨rfl, hb3⟩
  have T2 := own_trans T2 hb3
  go_wp2
  go_ret2
  exact HR.out _ T2

set_option maxHeartbeats 8000000 in
theorem HEi_yes (s t s' t' : List Int) (h1 : s.length ≤ 9223372036854775807) (h2 : s'.length ≤ 9223372036854775807) (hA : isA s t = true) (hB : isA s' t' = true) (u v : Value) (w : World) (hu : Ac w u s t) (hv : Ac w v s' t') : Calls Try.prog 35 #[u, v] w (RetHE s t s' t' w) := by
  have HI1 := Lib.hid (isA_at u s t h1 w hu)
  have HI2 := Lib.hid (isA_at v s' t' h2 w hv)
  rw [hA] at HI1
  rw [hB] at HI2
  have HR : Hid (∀ w', Below w.heap.size w w' → RetHE s t s' t' w (.returned (.tuple #[.bool (eqG s t s' t'), (.int .i64 0)])) w') := Lib.hid (fun w' hb => by unfold RetHE; rw [hA, hB]; exact ⟨rfl, hb⟩)
  have ia := isA_is hA
  have ib := isA_is hB
  have n1 := ia.n72
  have n2 := ib.n72
  have HF1 := Lib.hid (form_at ia hu)
  have HF2 := Lib.hid (form_at ib hv)
  have HE := Lib.hid (fun u v w hu hv => equals_is u v (frm s t 0 s.length s) (frm s t 0 s.length t) (frm s' t' 0 s'.length s') (frm s' t' 0 s'.length t') (by rw [frm_len]; omega) (by rw [frm_len]; omega) w hu hv)
  have hq : decide (frm s t 0 s.length s = frm s' t' 0 s'.length s' ∧ frm s t 0 s.length t = frm s' t' 0 s'.length t') = eqG s t s' t' := rfl
  rw [hq] at HE
  obtain ⟨ad, c, ad', c', rfl⟩ := hu.shape
  obtain ⟨bd, d, bd', d', rfl⟩ := hv.shape
  clear hu hv hA hB ia ib hq
  generalize eqG s t s' t' = r at *
  generalize s.length = n at *
  generalize t.length = m at *
  generalize s'.length = p at *
  generalize t'.length = q at *
  go_enter Try.func35, Try.ntmps35
  go_wp2_with fail
  refine (HI1.out _ (by repeat (first | with_reducible exact own_refl _ | with_reducible assumption | with_reducible apply own_alloc | with_reducible apply own_drewN | with_reducible apply own_drew | ((with_reducible refine own_setCell ?_ ?_ _); rotate_left; focus (first | (simp; done) | (simp; omega))) | (with_reducible (refine own_trans ?_ (by assumption)))))).mono ?_
  rintro e w2 ⟨rfl, hb2⟩
  have T2 : Below w.heap.size w w2 := by repeat (first | with_reducible exact own_refl _ | with_reducible assumption | with_reducible apply own_alloc | with_reducible apply own_drewN | with_reducible apply own_drew | ((with_reducible refine own_setCell ?_ ?_ _); rotate_left; focus (first | (simp; done) | (simp; omega))) | (with_reducible (refine own_trans ?_ (by assumption))))
  have Bw2_0 : Box w2 (w.heap.size) [.slice ad n c, .slice ad' m c'] := by refine Box.below ?_ hb2; repeat (first | with_reducible assumption | with_reducible exact Box.new _ _ _ | (with_reducible refine Box.newAt ?_ _ _; (simp; done)) | with_reducible apply Box.alloc | with_reducible apply Box.drewN | with_reducible apply Box.drew)
  obtain ⟨_, _, _, _, _⟩ := Bw2_0.two
  have Bw2_1 : Box w2 (w.heap.size + 1) [.slice bd p d, .slice bd' q d'] := by refine Box.below ?_ hb2; repeat (first | with_reducible assumption | with_reducible exact Box.new _ _ _ | (with_reducible refine Box.newAt ?_ _ _; (simp; done)) | with_reducible apply Box.alloc | with_reducible apply Box.drewN | with_reducible apply Box.drew)
  obtain ⟨_, _, _, _, _⟩ := Bw2_1.two
  go_wp2_with fail
  refine (HI2.out _ T2).mono ?_
  rintro e w3 ⟨rfl, hb3⟩
  have T3 := own_trans T2 hb3
  have B3 := Bw2_0.below hb3
  have C3 := Bw2_1.below hb3
  obtain ⟨-, b0, b1, -, -⟩ := B3.two
  obtain ⟨-, c0, c1, -, -⟩ := C3.two
  clear hb2 hb3 Bw2_0 Bw2_1
  go_upto_region 3 with fail
  go_region_held3 (fun w' => w'.cell? ⟨w.heap.size, 0, none⟩ = some (.slice ad n c) ∧ w'.cell? ⟨w.heap.size, 1, none⟩ = some (.slice ad' m c') ∧ w'.cell? ⟨w.heap.size + 1, 0, none⟩ = some (.slice bd p d) ∧ w'.cell? ⟨w.heap.size + 1, 1, none⟩ = some (.slice bd' q d')) (go_keep)
    (first
      | (go_at_call 57; (with_reducible refine (HE.out _ _ _ W1.ac W2.ac).mono ?_); rintro e w6 ⟨rfl, hb6⟩; have T6 := own_trans T5 hb6; have B6 := B5.below hb6; have C6 := C5.below hb6; obtain ⟨-, b60, b61, -, -⟩ := B6.two; obtain ⟨-, c60, c61, -, -⟩ := C6.two; clear hb6)
      | (go_at_call 55; (with_reducible refine (HF2.out _ T4).mono ?_); rintro e w5 ⟨v2, rfl, W2, hb5⟩; have W1 := W4.own hb5; have T5 := own_trans T4 hb5; have B5 := B4.below hb5; have C5 := C4.below hb5; obtain ⟨-, b50, b51, -, -⟩ := B5.two; obtain ⟨-, c50, c51, -, -⟩ := C5.two; clear hb5)
      | (go_at_call 55; (with_reducible refine (HF1.out _ U4).mono ?_); rintro e w5 ⟨v1, rfl, W1, hb5⟩; have W2 := X4.own hb5; have T5 := own_trans U4 hb5; have B5 := B4.below hb5; have C5 := C4.below hb5; obtain ⟨-, b50, b51, -, -⟩ := B5.two; obtain ⟨-, c50, c51, -, -⟩ := C5.two; clear hb5)
      | (go_at_call 55; (with_reducible refine (HF1.out _ (own_drew T3)).mono ?_); rintro e w4 ⟨v1, rfl, W4, hb4⟩; have T4 := own_trans (own_drew T3) hb4; have B4 := (B3.drew).below hb4; have C4 := (C3.drew).below hb4; obtain ⟨-, b40, b41, -, -⟩ := B4.two; obtain ⟨-, c40, c41, -, -⟩ := C4.two; clear hb4)
      | (go_at_call 55; (with_reducible refine (HF2.out _ (own_drew T3)).mono ?_); rintro e w4 ⟨v2, rfl, X4, hb4⟩; have U4 := own_trans (own_drew T3) hb4; have B4 := (B3.drew).below hb4; have C4 := (C3.drew).below hb4; obtain ⟨-, b40, b41, -, -⟩ := B4.two; obtain ⟨-, c40, c41, -, -⟩ := C4.two; clear hb4))
  all_goals
    go_wp2
    go_ret2
    exact HR.out _ (by first | exact T6 | exact own_drew T6)

theorem HEi_is (s t s' t' : List Int) (h1 : s.length ≤ 9223372036854775807) (h2 : s'.length ≤ 9223372036854775807) (u v : Value) (w : World) (hu : Ac w u s t) (hv : Ac w v s' t') : Calls Try.prog 35 #[u, v] w (RetHE s t s' t' w) := by
  rcases hA : isA s t with _ | _
  · exact HEi_no1 s t s' t' h1 h2 hA u v w hu hv
  · rcases hB : isA s' t' with _ | _
    · exact HEi_no2 s t s' t' h1 h2 hA hB u v w hu hv
    · exact HEi_yes s t s' t' h1 h2 hA hB u v w hu hv
theorem HEs_no1 (s t s' t' : List Int) (h1 : s.length ≤ 9223372036854775807) (h2 : s'.length ≤ 9223372036854775807) (hA : isA s t = false) (u v : Value) (w : World) (hu : Ac w u s t) (hv : Ac w v s' t') : Calls Try.prog 34 #[u, v] w (RetHE s t s' t' w) := by
  have HI1 := Lib.hid (l10Is_at u s t h1 w hu)
  have HI2 := Lib.hid (l10Is_at v s' t' h2 w hv)
  rw [hA] at HI1
  have HR : Hid (∀ w', Below w.heap.size w w' → RetHE s t s' t' w (.returned (.tuple #[.bool false, (.int .i64 1)])) w') := Lib.hid (fun w' hb => by unfold RetHE; rw [hA]; exact ⟨rfl, hb⟩)
  obtain ⟨ad, c, ad', c', rfl⟩ := hu.shape
  obtain ⟨bd, d, bd', d', rfl⟩ := hv.shape
  clear hu hv hA
  generalize s.length = n at *
  generalize t.length = m at *
  generalize s'.length = p at *
  generalize t'.length = q at *
  go_enter Try.func34, Try.ntmps34
  go_wp2_with fail
  refine (HI1.out _ (by repeat (first | with_reducible exact own_refl _ | with_reducible assumption | with_reducible apply own_alloc | with_reducible apply own_drewN | with_reducible apply own_drew | ((with_reducible refine own_setCell ?_ ?_ _); rotate_left; focus (first | (simp; done) | (simp; omega))) | (with_reducible (refine own_trans ?_ (by assumption)))))).mono ?_
  rintro e w2 ⟨rfl, hb2⟩
  have T2 : Below w.heap.size w w2 := by repeat (first | with_reducible exact own_refl _ | with_reducible assumption | with_reducible apply own_alloc | with_reducible apply own_drewN | with_reducible apply own_drew | ((with_reducible refine own_setCell ?_ ?_ _); rotate_left; focus (first | (simp; done) | (simp; omega))) | (with_reducible (refine own_trans ?_ (by assumption))))
  go_wp2
  go_ret2
  exact HR.out _ T2

theorem HEs_no2 (s t s' t' : List Int) (h1 : s.length ≤ 9223372036854775807) (h2 : s'.length ≤ 9223372036854775807) (hA : isA s t = true) (hB : isA s' t' = false) (u v : Value) (w : World) (hu : Ac w u s t) (hv : Ac w v s' t') : Calls Try.prog 34 #[u, v] w (RetHE s t s' t' w) := by
  have HI1 := Lib.hid (l10Is_at u s t h1 w hu)
  have HI2 := Lib.hid (l10Is_at v s' t' h2 w hv)
  rw [hA] at HI1
  rw [hB] at HI2
  have HR : Hid (∀ w', Below w.heap.size w w' → RetHE s t s' t' w (.returned (.tuple #[.bool false, (.int .i64 1)])) w') := Lib.hid (fun w' hb => by unfold RetHE; rw [hA, hB]; exact ⟨rfl, hb⟩)
  obtain ⟨ad, c, ad', c', rfl⟩ := hu.shape
  obtain ⟨bd, d, bd', d', rfl⟩ := hv.shape
  clear hu hv hA hB
  generalize s.length = n at *
  generalize t.length = m at *
  generalize s'.length = p at *
  generalize t'.length = q at *
  go_enter Try.func34, Try.ntmps34
  go_wp2_with fail
  refine (HI1.out _ (by repeat (first | with_reducible exact own_refl _ | with_reducible assumption | with_reducible apply own_alloc | with_reducible apply own_drewN | with_reducible apply own_drew | ((with_reducible refine own_setCell ?_ ?_ _); rotate_left; focus (first | (simp; done) | (simp; omega))) | (with_reducible (refine own_trans ?_ (by assumption)))))).mono ?_
  rintro e w2 ⟨rfl, hb2⟩
  have T2 : Below w.heap.size w w2 := by repeat (first | with_reducible exact own_refl _ | with_reducible assumption | with_reducible apply own_alloc | with_reducible apply own_drewN | with_reducible apply own_drew | ((with_reducible refine own_setCell ?_ ?_ _); rotate_left; focus (first | (simp; done) | (simp; omega))) | (with_reducible (refine own_trans ?_ (by assumption))))
  have Bw2_0 : Box w2 (w.heap.size) [.slice ad n c, .slice ad' m c'] := by refine Box.below ?_ hb2; repeat (first | with_reducible assumption | with_reducible exact Box.new _ _ _ | (with_reducible refine Box.newAt ?_ _ _; (simp; done)) | with_reducible apply Box.alloc | with_reducible apply Box.drewN | with_reducible apply Box.drew)
  obtain ⟨_, _, _, _, _⟩ := Bw2_0.two
  have Bw2_1 : Box w2 (w.heap.size + 1) [.slice bd p d, .slice bd' q d'] := by refine Box.below ?_ hb2; repeat (first | with_reducible assumption | with_reducible exact Box.new _ _ _ | (with_reducible refine Box.newAt ?_ _ _; (simp; done)) | with_reducible apply Box.alloc | with_reducible apply Box.drewN | with_reducible apply Box.drew)
  obtain ⟨_, _, _, _, _⟩ := Bw2_1.two
  go_wp2_with fail
  refine (HI2.out _ T2).mono ?_
  rintro e w3 ⟨rfl, hb3⟩
  have T2 := own_trans T2 hb3
  go_wp2
  go_ret2
  exact HR.out _ T2

set_option maxHeartbeats 8000000 in
theorem HEs_yes (s t s' t' : List Int) (h1 : s.length ≤ 9223372036854775807) (h2 : s'.length ≤ 9223372036854775807) (hA : isA s t = true) (hB : isA s' t' = true) (u v : Value) (w : World) (hu : Ac w u s t) (hv : Ac w v s' t') : Calls Try.prog 34 #[u, v] w (RetHE s t s' t' w) := by
  have HI1 := Lib.hid (l10Is_at u s t h1 w hu)
  have HI2 := Lib.hid (l10Is_at v s' t' h2 w hv)
  rw [hA] at HI1
  rw [hB] at HI2
  have HR : Hid (∀ w', Below w.heap.size w w' → RetHE s t s' t' w (.returned (.tuple #[.bool (eqG s t s' t'), (.int .i64 0)])) w') := Lib.hid (fun w' hb => by unfold RetHE; rw [hA, hB]; exact ⟨rfl, hb⟩)
  have ia := isA_is hA
  have ib := isA_is hB
  have n1 := ia.n72
  have n2 := ib.n72
  have HF1 := Lib.hid (l10Form_at ia hu)
  have HF2 := Lib.hid (l10Form_at ib hv)
  have HE := Lib.hid (fun u v w hu hv => l10Equal_is u v (frm s t 0 s.length s) (frm s t 0 s.length t) (frm s' t' 0 s'.length s') (frm s' t' 0 s'.length t') (by rw [frm_len, frm_len]) (by rw [frm_len]; omega) (by rw [frm_len, frm_len]) w hu hv)
  have hq : decide (frm s t 0 s.length s = frm s' t' 0 s'.length s' ∧ frm s t 0 s.length t = frm s' t' 0 s'.length t') = eqG s t s' t' := rfl
  rw [hq] at HE
  obtain ⟨ad, c, ad', c', rfl⟩ := hu.shape
  obtain ⟨bd, d, bd', d', rfl⟩ := hv.shape
  clear hu hv hA hB ia ib hq
  generalize eqG s t s' t' = r at *
  generalize s.length = n at *
  generalize t.length = m at *
  generalize s'.length = p at *
  generalize t'.length = q at *
  go_enter Try.func34, Try.ntmps34
  go_wp2_with fail
  refine (HI1.out _ (by repeat (first | with_reducible exact own_refl _ | with_reducible assumption | with_reducible apply own_alloc | with_reducible apply own_drewN | with_reducible apply own_drew | ((with_reducible refine own_setCell ?_ ?_ _); rotate_left; focus (first | (simp; done) | (simp; omega))) | (with_reducible (refine own_trans ?_ (by assumption)))))).mono ?_
  rintro e w2 ⟨rfl, hb2⟩
  have T2 : Below w.heap.size w w2 := by repeat (first | with_reducible exact own_refl _ | with_reducible assumption | with_reducible apply own_alloc | with_reducible apply own_drewN | with_reducible apply own_drew | ((with_reducible refine own_setCell ?_ ?_ _); rotate_left; focus (first | (simp; done) | (simp; omega))) | (with_reducible (refine own_trans ?_ (by assumption))))
  have Bw2_0 : Box w2 (w.heap.size) [.slice ad n c, .slice ad' m c'] := by refine Box.below ?_ hb2; repeat (first | with_reducible assumption | with_reducible exact Box.new _ _ _ | (with_reducible refine Box.newAt ?_ _ _; (simp; done)) | with_reducible apply Box.alloc | with_reducible apply Box.drewN | with_reducible apply Box.drew)
  obtain ⟨_, _, _, _, _⟩ := Bw2_0.two
  have Bw2_1 : Box w2 (w.heap.size + 1) [.slice bd p d, .slice bd' q d'] := by refine Box.below ?_ hb2; repeat (first | with_reducible assumption | with_reducible exact Box.new _ _ _ | (with_reducible refine Box.newAt ?_ _ _; (simp; done)) | with_reducible apply Box.alloc | with_reducible apply Box.drewN | with_reducible apply Box.drew)
  obtain ⟨_, _, _, _, _⟩ := Bw2_1.two
  go_wp2_with fail
  refine (HI2.out _ T2).mono ?_
  rintro e w3 ⟨rfl, hb3⟩
  have T3 := own_trans T2 hb3
  have B3 := Bw2_0.below hb3
  have C3 := Bw2_1.below hb3
  obtain ⟨-, b0, b1, -, -⟩ := B3.two
  obtain ⟨-, c0, c1, -, -⟩ := C3.two
  clear hb2 hb3 Bw2_0 Bw2_1
  go_upto_region 3 with fail
  go_region_held3 (fun w' => w'.cell? ⟨w.heap.size, 0, none⟩ = some (.slice ad n c) ∧ w'.cell? ⟨w.heap.size, 1, none⟩ = some (.slice ad' m c') ∧ w'.cell? ⟨w.heap.size + 1, 0, none⟩ = some (.slice bd p d) ∧ w'.cell? ⟨w.heap.size + 1, 1, none⟩ = some (.slice bd' q d')) (go_keep)
    (first
      | (go_at_call 56; (with_reducible refine (HE.out _ _ _ W1.ac W2.ac).mono ?_); rintro e w6 ⟨rfl, hb6⟩; have T6 := own_trans T5 hb6; have B6 := B5.below hb6; have C6 := C5.below hb6; obtain ⟨-, b60, b61, -, -⟩ := B6.two; obtain ⟨-, c60, c61, -, -⟩ := C6.two; clear hb6)
      | (go_at_call 53; (with_reducible refine (HF2.out _ T4).mono ?_); rintro e w5 ⟨v2, rfl, W2, hb5⟩; have W1 := W4.own hb5; have T5 := own_trans T4 hb5; have B5 := B4.below hb5; have C5 := C4.below hb5; obtain ⟨-, b50, b51, -, -⟩ := B5.two; obtain ⟨-, c50, c51, -, -⟩ := C5.two; clear hb5)
      | (go_at_call 53; (with_reducible refine (HF1.out _ U4).mono ?_); rintro e w5 ⟨v1, rfl, W1, hb5⟩; have W2 := X4.own hb5; have T5 := own_trans U4 hb5; have B5 := B4.below hb5; have C5 := C4.below hb5; obtain ⟨-, b50, b51, -, -⟩ := B5.two; obtain ⟨-, c50, c51, -, -⟩ := C5.two; clear hb5)
      | (go_at_call 53; (with_reducible refine (HF1.out _ (own_drew T3)).mono ?_); rintro e w4 ⟨v1, rfl, W4, hb4⟩; have T4 := own_trans (own_drew T3) hb4; have B4 := (B3.drew).below hb4; have C4 := (C3.drew).below hb4; obtain ⟨-, b40, b41, -, -⟩ := B4.two; obtain ⟨-, c40, c41, -, -⟩ := C4.two; clear hb4)
      | (go_at_call 53; (with_reducible refine (HF2.out _ (own_drew T3)).mono ?_); rintro e w4 ⟨v2, rfl, X4, hb4⟩; have U4 := own_trans (own_drew T3) hb4; have B4 := (B3.drew).below hb4; have C4 := (C3.drew).below hb4; obtain ⟨-, b40, b41, -, -⟩ := B4.two; obtain ⟨-, c40, c41, -, -⟩ := C4.two; clear hb4))
  all_goals
    go_wp2
    go_ret2
    exact HR.out _ (by first | exact T6 | exact own_drew T6)

theorem HEs_is (s t s' t' : List Int) (h1 : s.length ≤ 9223372036854775807) (h2 : s'.length ≤ 9223372036854775807) (u v : Value) (w : World) (hu : Ac w u s t) (hv : Ac w v s' t') : Calls Try.prog 34 #[u, v] w (RetHE s t s' t' w) := by
  rcases hA : isA s t with _ | _
  · exact HEs_no1 s t s' t' h1 h2 hA u v w hu hv
  · rcases hB : isA s' t' with _ | _
    · exact HEs_no2 s t s' t' h1 h2 hA hB u v w hu hv
    · exact HEs_yes s t s' t' h1 h2 hA hB u v w hu hv
end Go.Proofs.Ytfchfakkbdfajaa
