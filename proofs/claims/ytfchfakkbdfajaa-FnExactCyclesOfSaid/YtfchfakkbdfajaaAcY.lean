/- FormFrom: both sides. -/
import Derived.Test.YtfchfakkbdfajaaAcX
namespace Go.Proofs.Ytfchfakkbdfajaa
open Go.ChangeShapes Go.WideShapes Go.ChangeAt Go.RowKit

/-- a point and its code -/
def ptCode (s t : List Int) (i : Int) : Int := if isA s t then (if 0 ≤ i ∧ i < (s.length : Int) then 0 else 2) else 1
def RetA (p q : List Int) (kc : Int) (w : World) (e : Ending) (w' : World) : Prop :=
  ∃ v, e = .returned (.tuple #[v, (.int .i64 kc)]) ∧ AcR w' w.heap.size v p q ∧ Below w.heap.size w w'
theorem hasP_is (u : Value) (s t : List Int) (n : Nat) (hn : s.length = n) (i : Int) (b : Bool) (hb : decide (0 ≤ i ∧ i < (n : Int)) = b) (w : World) (hu : Ac w u s t) :
    Calls Try.prog 54 #[u, (.int .i64 i)] w fun e w' => e = .returned (.bool b) ∧ Below w.heap.size w w' := by
  obtain ⟨ad, c, ad', c', rfl⟩ := hu.shape
  rw [hn]
  generalize t.length = m at *
  clear hu
  by_cases h1 : 0 ≤ i
  · by_cases h2 : i < (n : Int)
    · rw [decide_eq_true ⟨h1, h2⟩] at hb
      subst hb
      clear hn
      go_enter Try.func54, Try.ntmps54
      go_wp2
      go_ret
      exact ⟨ret_bool (by simp), by repeat (first | with_reducible exact own_refl _ | with_reducible assumption | with_reducible apply own_alloc | with_reducible apply own_drewN | with_reducible apply own_drew | ((with_reducible refine own_setCell ?_ ?_ _); rotate_left; focus (first | (simp; done) | (simp; omega))) | (with_reducible (refine own_trans ?_ (by assumption))))⟩
    · rw [decide_eq_false (fun h => h2 h.2)] at hb
      subst hb
      clear hn
      go_enter Try.func54, Try.ntmps54
      go_wp2
      go_ret
      exact ⟨ret_bool (by simp), by repeat (first | with_reducible exact own_refl _ | with_reducible assumption | with_reducible apply own_alloc | with_reducible apply own_drewN | with_reducible apply own_drew | ((with_reducible refine own_setCell ?_ ?_ _); rotate_left; focus (first | (simp; done) | (simp; omega))) | (with_reducible (refine own_trans ?_ (by assumption))))⟩
  · rw [decide_eq_false (fun h => h1 h.1)] at hb
    subst hb
    clear hn
    go_enter Try.func54, Try.ntmps54
    go_wp2
    go_ret
    exact ⟨rfl, by repeat (first | with_reducible exact own_refl _ | with_reducible assumption | with_reducible apply own_alloc | with_reducible apply own_drewN | with_reducible apply own_drew | ((with_reducible refine own_setCell ?_ ?_ _); rotate_left; focus (first | (simp; done) | (simp; omega))) | (with_reducible (refine own_trans ?_ (by assumption))))⟩
theorem l10Code_is (u : Value) (s t : List Int) (hsl : s.length ≤ 9223372036854775807) (i : Int) (w : World) (hu : Ac w u s t) :
    Calls Try.prog 52 #[u, (.int .i64 i)] w fun e w' => e = .returned (.int .i64 (ptCode s t i)) ∧ Below w.heap.size w w' := by
  have HI := Lib.hid (l10Is_at u s t hsl w hu)
  rcases hA : isA s t with _ | _
  · have HR : Hid (ptCode s t i = 1) := Lib.hid (by simp [ptCode, hA])
    rw [hA] at HI
    rw [HR.out]
    obtain ⟨ad, c, ad', c', rfl⟩ := hu.shape
    clear hu hA
    go_enter Try.func52, Try.ntmps52
    go_wp2_with fail
    refine (HI.out _ (by repeat (first | with_reducible exact own_refl _ | with_reducible assumption | with_reducible apply own_alloc | with_reducible apply own_drewN | with_reducible apply own_drew | ((with_reducible refine own_setCell ?_ ?_ _); rotate_left; focus (first | (simp; done) | (simp; omega))) | (with_reducible (refine own_trans ?_ (by assumption)))))).mono ?_
    rintro e w2 ⟨rfl, hb2⟩
    go_wp2
    go_ret
    exact ⟨rfl, by repeat (first | with_reducible exact own_refl _ | with_reducible assumption | with_reducible apply own_alloc | with_reducible apply own_drewN | with_reducible apply own_drew | ((with_reducible refine own_setCell ?_ ?_ _); rotate_left; focus (first | (simp; done) | (simp; omega))) | (with_reducible (refine own_trans ?_ (by assumption))))⟩
  · have hn := (isA_is hA).n72
    have hn1 := (isA_is hA).n1
    rw [hA] at HI
    obtain ⟨b, hb⟩ : ∃ b, inR i 0 ((s.length : Int) - 1) = b := ⟨_, rfl⟩
    have HN := Lib.hid (fun w => l01In_is b i 0 ((s.length : Int) - 1) hb w)
    have HR : Hid (ptCode s t i = if b then 0 else 2) := Lib.hid (by
      unfold ptCode
      rw [hA, if_pos rfl, ← hb]
      by_cases h : 0 ≤ i ∧ i < (s.length : Int)
      · rw [if_pos h, show inR i 0 ((s.length : Int) - 1) = true from decide_eq_true (by omega)]; rfl
      · rw [if_neg h, show inR i 0 ((s.length : Int) - 1) = false from decide_eq_false (by omega)]; rfl)
    rw [HR.out]
    obtain ⟨ad, c, ad', c', rfl⟩ := hu.shape
    clear hu hA hb
    generalize s.length = n at *
    generalize t.length = m at *
    cases b
    · go_enter Try.func52, Try.ntmps52
      go_wp2_with fail
      refine (HI.out _ (by repeat (first | with_reducible exact own_refl _ | with_reducible assumption | with_reducible apply own_alloc | with_reducible apply own_drewN | with_reducible apply own_drew | ((with_reducible refine own_setCell ?_ ?_ _); rotate_left; focus (first | (simp; done) | (simp; omega))) | (with_reducible (refine own_trans ?_ (by assumption)))))).mono ?_
      rintro e w2 ⟨rfl, hb2⟩
      have Bw2_0 : Box w2 (w.heap.size) [.slice ad n c, .slice ad' m c'] := by refine Box.below ?_ hb2; repeat (first | with_reducible assumption | with_reducible exact Box.new _ _ _ | (with_reducible refine Box.newAt ?_ _ _; (simp; done)) | with_reducible apply Box.alloc | with_reducible apply Box.drewN | with_reducible apply Box.drew)
      obtain ⟨_, _, _, _, _⟩ := Bw2_0.two
      have T2 : Below w.heap.size w w2 := by repeat (first | with_reducible exact own_refl _ | with_reducible assumption | with_reducible apply own_alloc | with_reducible apply own_drewN | with_reducible apply own_drew | ((with_reducible refine own_setCell ?_ ?_ _); rotate_left; focus (first | (simp; done) | (simp; omega))) | (with_reducible (refine own_trans ?_ (by assumption))))
      go_wp2_with fail
      refine (HN.out _).mono ?_
      rintro e w3 ⟨rfl, rfl⟩
      go_wp2
      go_ret
      exact ⟨rfl, T2⟩
    · go_enter Try.func52, Try.ntmps52
      go_wp2_with fail
      refine (HI.out _ (by repeat (first | with_reducible exact own_refl _ | with_reducible assumption | with_reducible apply own_alloc | with_reducible apply own_drewN | with_reducible apply own_drew | ((with_reducible refine own_setCell ?_ ?_ _); rotate_left; focus (first | (simp; done) | (simp; omega))) | (with_reducible (refine own_trans ?_ (by assumption)))))).mono ?_
      rintro e w2 ⟨rfl, hb2⟩
      have Bw2_0 : Box w2 (w.heap.size) [.slice ad n c, .slice ad' m c'] := by refine Box.below ?_ hb2; repeat (first | with_reducible assumption | with_reducible exact Box.new _ _ _ | (with_reducible refine Box.newAt ?_ _ _; (simp; done)) | with_reducible apply Box.alloc | with_reducible apply Box.drewN | with_reducible apply Box.drew)
      obtain ⟨_, _, _, _, _⟩ := Bw2_0.two
      have T2 : Below w.heap.size w w2 := by repeat (first | with_reducible exact own_refl _ | with_reducible assumption | with_reducible apply own_alloc | with_reducible apply own_drewN | with_reducible apply own_drew | ((with_reducible refine own_setCell ?_ ?_ _); rotate_left; focus (first | (simp; done) | (simp; omega))) | (with_reducible (refine own_trans ?_ (by assumption))))
      go_wp2_with fail
      refine (HN.out _).mono ?_
      rintro e w3 ⟨rfl, rfl⟩
      go_wp2
      go_ret
      exact ⟨rfl, T2⟩
theorem nilA {w w' : World} (hb : Below w.heap.size w w') (kc : Int) : RetA [] [] kc w (.returned (.tuple #[.agg #[.slice none 0 0, .slice none 0 0], (.int .i64 kc)])) w' :=
  ⟨_, rfl, AcR.nil _ _, hb⟩
theorem l10FormJ_at {u : Value} {s t : List Int} (ia : IsA s t s.length) {w : World} (hu : Ac w u s t) (j : Nat) (hj : j < s.length) (w' : World) (hb : Below w.heap.size w w') :
    Calls Try.prog 53 #[u, (.int .i64 ((j : Int)))] w' fun e w'' => ∃ v, e = .returned v ∧ AcR w'' w'.heap.size v (frm s t j s.length s) (frm s t j s.length t) ∧ Below w'.heap.size w' w'' := by
  obtain ⟨x, y, rfl, hx, hy⟩ := hu.below hb
  exact l10Form_is x y s t s.length (by have := ia.n72; omega) ia.n1 ia.pS ia.pT j hj w' hx hy
theorem formJ_at {u : Value} {s t : List Int} (ia : IsA s t s.length) {w : World} (hu : Ac w u s t) (j : Nat) (hj : j < s.length) (w' : World) (hb : Below w.heap.size w w') :
    Calls Try.prog 55 #[u, (.int .i64 ((j : Int)))] w' fun e w'' => ∃ v, e = .returned v ∧ AcR w'' w'.heap.size v (frm s t j s.length s) (frm s t j s.length t) ∧ Below w'.heap.size w' w'' := by
  obtain ⟨x, y, rfl, hx, hy⟩ := hu.below hb
  exact form_is x y s t s.length (by have := ia.n72; omega) ia.n1 ia.pS ia.pT j hj w' hx hy
/-- the lists of FormFrom's answer -/
def ffS (s t : List Int) (i : Int) : List Int := if ptCode s t i = 0 then frm s t i.toNat s.length s else []
def ffT (s t : List Int) (i : Int) : List Int := if ptCode s t i = 0 then frm s t i.toNat s.length t else []
set_option maxHeartbeats 4000000 in
theorem FFi_is (s t : List Int) (hsl : s.length ≤ 9223372036854775807) (i : Int) (u : Value) (w : World) (hu : Ac w u s t) :
    Calls Try.prog 33 #[u, (.int .i64 i)] w (RetA (ffS s t i) (ffT s t i) (ptCode s t i) w) := by
  have HI := Lib.hid (isA_at u s t hsl w hu)
  rcases hA : isA s t with _ | _
  · have hc : ptCode s t i = 1 := by simp [ptCode, hA]
    have e1 : ffS s t i = [] := by simp [ffS, hc]
    have e2 : ffT s t i = [] := by simp [ffT, hc]
    rw [hA] at HI
    rw [hc, e1, e2]
    obtain ⟨ad, c, ad', c', rfl⟩ := hu.shape
    clear hu hA hc e1 e2
    generalize s.length = n at *
    generalize t.length = m at *
    go_enter Try.func33, Try.ntmps33
    go_wp2_with fail
    refine (HI.out _ (by repeat (first | with_reducible exact own_refl _ | with_reducible assumption | with_reducible apply own_alloc | with_reducible apply own_drewN | with_reducible apply own_drew | ((with_reducible refine own_setCell ?_ ?_ _); rotate_left; focus (first | (simp; done) | (simp; omega))) | (with_reducible (refine own_trans ?_ (by assumption)))))).mono ?_
    rintro e w2 ⟨rfl, hb2⟩
    have T2 : Below w.heap.size w w2 := by repeat (first | with_reducible exact own_refl _ | with_reducible assumption | with_reducible apply own_alloc | with_reducible apply own_drewN | with_reducible apply own_drew | ((with_reducible refine own_setCell ?_ ?_ _); rotate_left; focus (first | (simp; done) | (simp; omega))) | (with_reducible (refine own_trans ?_ (by assumption))))
    have Bw2_0 : Box w2 (w.heap.size) [.slice ad n c, .slice ad' m c'] := by refine Box.below ?_ hb2; repeat (first | with_reducible assumption | with_reducible exact Box.new _ _ _ | (with_reducible refine Box.newAt ?_ _ _; (simp; done)) | with_reducible apply Box.alloc | with_reducible apply Box.drewN | with_reducible apply Box.drew)
    obtain ⟨_, _, _, _, _⟩ := Bw2_0.two
    have Bw2_1 : Box w2 (w.heap.size + 1) [.slice none 0 0, .slice none 0 0] := by refine Box.below ?_ hb2; repeat (first | with_reducible assumption | with_reducible exact Box.new _ _ _ | (with_reducible refine Box.newAt ?_ _ _; (simp; done)) | with_reducible apply Box.alloc | with_reducible apply Box.drewN | with_reducible apply Box.drew)
    obtain ⟨_, _, _, _, _⟩ := Bw2_1.two
    obtain ⟨-, d0, d1, f0, f1⟩ := Bw2_1.two
    have C9 := Bw2_1.put2 (.slice none 0 0) (.slice none 0 0)
    obtain ⟨-, x0, x1, -, -⟩ := C9.two
    have T9 := own_setCell (own_setCell T2 (p := ⟨w.heap.size + 1, 0, none⟩) (by simp) (.slice none 0 0)) (p := ⟨w.heap.size + 1, 1, none⟩) (by simp) (.slice none 0 0)
    go_wp2
    exact bodyPost_ret (v := .tuple #[.agg #[.slice none 0 0, .slice none 0 0], (.int .i64 1)]) (by simp [results, Try.results33, go_sem, x0, x1]) rfl (nilA T9 1)
  · have ia := isA_is hA
    have hn := ia.n72
    have HP := Lib.hid (fun b hb w' (h : Below w.heap.size w w') => hasP_is u s t s.length rfl i b hb w' (hu.below h))
    rw [hA] at HI
    by_cases hr : 0 ≤ i ∧ i < (s.length : Int)
    · obtain ⟨j, rfl⟩ : ∃ j : Nat, i = j := ⟨i.toNat, by omega⟩
      have hc : ptCode s t (j : Int) = 0 := by simp only [ptCode, hA, if_true]; rw [if_pos hr]
      have e1 : ffS s t (j : Int) = frm s t j s.length s := by simp [ffS, hc]
      have e2 : ffT s t (j : Int) = frm s t j s.length t := by simp [ffT, hc]
      have HF := Lib.hid (formJ_at ia hu j (by omega))
      have HP := Lib.hid (HP.out true (decide_eq_true hr))
      rw [hc, e1, e2]
      generalize frm s t j s.length s = fs at *
      generalize frm s t j s.length t = ft at *
      obtain ⟨ad, c, ad', c', rfl⟩ := hu.shape
      clear hu hA hc e1 e2 ia hr
      generalize s.length = n at *
      generalize t.length = m at *
      go_enter Try.func33, Try.ntmps33
      go_wp2_with fail
      refine (HI.out _ (by repeat (first | with_reducible exact own_refl _ | with_reducible assumption | with_reducible apply own_alloc | with_reducible apply own_drewN | with_reducible apply own_drew | ((with_reducible refine own_setCell ?_ ?_ _); rotate_left; focus (first | (simp; done) | (simp; omega))) | (with_reducible (refine own_trans ?_ (by assumption)))))).mono ?_
      rintro e w2 ⟨rfl, hb2⟩
      have T2 : Below w.heap.size w w2 := by repeat (first | with_reducible exact own_refl _ | with_reducible assumption | with_reducible apply own_alloc | with_reducible apply own_drewN | with_reducible apply own_drew | ((with_reducible refine own_setCell ?_ ?_ _); rotate_left; focus (first | (simp; done) | (simp; omega))) | (with_reducible (refine own_trans ?_ (by assumption))))
      have Bw2_0 : Box w2 (w.heap.size) [.slice ad n c, .slice ad' m c'] := by refine Box.below ?_ hb2; repeat (first | with_reducible assumption | with_reducible exact Box.new _ _ _ | (with_reducible refine Box.newAt ?_ _ _; (simp; done)) | with_reducible apply Box.alloc | with_reducible apply Box.drewN | with_reducible apply Box.drew)
      obtain ⟨_, _, _, _, _⟩ := Bw2_0.two
      have Bw2_1 : Box w2 (w.heap.size + 1) [.slice none 0 0, .slice none 0 0] := by refine Box.below ?_ hb2; repeat (first | with_reducible assumption | with_reducible exact Box.new _ _ _ | (with_reducible refine Box.newAt ?_ _ _; (simp; done)) | with_reducible apply Box.alloc | with_reducible apply Box.drewN | with_reducible apply Box.drew)
      obtain ⟨_, _, _, _, _⟩ := Bw2_1.two
      go_wp2_with fail
      refine (HP.out _ T2).mono ?_
      rintro e w3 ⟨rfl, hb3⟩
      have T3 := own_trans T2 hb3
      have B3 := Bw2_0.below hb3
      have C3 := Bw2_1.below hb3
      obtain ⟨-, b0, b1, -, -⟩ := B3.two
      go_wp2_with fail
      refine (HF.out _ T3).mono ?_
      rintro e w4 ⟨v5, rfl, hA5, hb4⟩
      have T4 := own_trans T3 hb4
      have C4 := C3.below hb4
      have hz3 := C3.1
      obtain ⟨a5, c5, b5, d5, e5⟩ := hA5.shape
      subst e5
      obtain ⟨a6, b6, e6, GA, GB, hap⟩ := hA5
      injection e6 with e6
      have ea : a6 = .slice a5 fs.length c5 := by have := congrArg (fun x => x[0]?) e6; simpa using this.symm
      have eb : b6 = .slice b5 ft.length d5 := by have := congrArg (fun x => x[1]?) e6; simpa using this.symm
      subst ea eb
      obtain ⟨-, d0, d1, f0, f1⟩ := C4.two
      have C9 := C4.put2 (.slice a5 fs.length c5) (.slice b5 ft.length d5)
      obtain ⟨-, x0, x1, -, -⟩ := C9.two
      have GA9 := (GA.set (p := ⟨w.heap.size + 1, 0, none⟩) (by simp; omega) (.slice a5 fs.length c5)).set (p := ⟨w.heap.size + 1, 1, none⟩) (by simp; omega) (.slice b5 ft.length d5)
      have GB9 := (GB.set (p := ⟨w.heap.size + 1, 0, none⟩) (by simp; omega) (.slice a5 fs.length c5)).set (p := ⟨w.heap.size + 1, 1, none⟩) (by simp; omega) (.slice b5 ft.length d5)
      have T9 := own_setCell (own_setCell T4 (p := ⟨w.heap.size + 1, 0, none⟩) (by simp) (.slice a5 fs.length c5)) (p := ⟨w.heap.size + 1, 1, none⟩) (by simp) (.slice b5 ft.length d5)
      have HE : Hid (RetA fs ft 0 w (.returned (.tuple #[.agg #[.slice a5 fs.length c5, .slice b5 ft.length d5], (.int .i64 0)])) ((w4.setCell ⟨w.heap.size + 1, 0, none⟩ (.slice a5 fs.length c5)).setCell ⟨w.heap.size + 1, 1, none⟩ (.slice b5 ft.length d5))) := Lib.hid ⟨_, rfl, ⟨_, _, rfl, GA9.weakL (by omega), GB9.weakL (by omega), hap⟩, T9⟩
      clear GA9 GB9 T9 C9 GA GB hap e6
      go_wp2
      exact bodyPost_ret (v := .tuple #[.agg #[.slice a5 fs.length c5, .slice b5 ft.length d5], (.int .i64 0)]) (by simp [results, Try.results33, go_sem, x0, x1]) rfl HE.out
    · have hc : ptCode s t i = 2 := by simp only [ptCode, hA, if_true]; rw [if_neg hr]
      have e1 : ffS s t i = [] := by simp [ffS, hc]
      have e2 : ffT s t i = [] := by simp [ffT, hc]
      have HP := Lib.hid (HP.out false (decide_eq_false hr))
      rw [hc, e1, e2]
      obtain ⟨ad, c, ad', c', rfl⟩ := hu.shape
      clear hu hA hc e1 e2 ia hr
      generalize s.length = n at *
      generalize t.length = m at *
      go_enter Try.func33, Try.ntmps33
      go_wp2_with fail
      refine (HI.out _ (by repeat (first | with_reducible exact own_refl _ | with_reducible assumption | with_reducible apply own_alloc | with_reducible apply own_drewN | with_reducible apply own_drew | ((with_reducible refine own_setCell ?_ ?_ _); rotate_left; focus (first | (simp; done) | (simp; omega))) | (with_reducible (refine own_trans ?_ (by assumption)))))).mono ?_
      rintro e w2 ⟨rfl, hb2⟩
      have T2 : Below w.heap.size w w2 := by repeat (first | with_reducible exact own_refl _ | with_reducible assumption | with_reducible apply own_alloc | with_reducible apply own_drewN | with_reducible apply own_drew | ((with_reducible refine own_setCell ?_ ?_ _); rotate_left; focus (first | (simp; done) | (simp; omega))) | (with_reducible (refine own_trans ?_ (by assumption))))
      have Bw2_0 : Box w2 (w.heap.size) [.slice ad n c, .slice ad' m c'] := by refine Box.below ?_ hb2; repeat (first | with_reducible assumption | with_reducible exact Box.new _ _ _ | (with_reducible refine Box.newAt ?_ _ _; (simp; done)) | with_reducible apply Box.alloc | with_reducible apply Box.drewN | with_reducible apply Box.drew)
      obtain ⟨_, _, _, _, _⟩ := Bw2_0.two
      have Bw2_1 : Box w2 (w.heap.size + 1) [.slice none 0 0, .slice none 0 0] := by refine Box.below ?_ hb2; repeat (first | with_reducible assumption | with_reducible exact Box.new _ _ _ | (with_reducible refine Box.newAt ?_ _ _; (simp; done)) | with_reducible apply Box.alloc | with_reducible apply Box.drewN | with_reducible apply Box.drew)
      obtain ⟨_, _, _, _, _⟩ := Bw2_1.two
      go_wp2_with fail
      refine (HP.out _ T2).mono ?_
      rintro e w3 ⟨rfl, hb3⟩
      have T3 := own_trans T2 hb3
      have C3 := Bw2_1.below hb3
      obtain ⟨-, d0, d1, f0, f1⟩ := C3.two
      have C9 := C3.put2 (.slice none 0 0) (.slice none 0 0)
      obtain ⟨-, x0, x1, -, -⟩ := C9.two
      have T9 := own_setCell (own_setCell T3 (p := ⟨w.heap.size + 1, 0, none⟩) (by simp) (.slice none 0 0)) (p := ⟨w.heap.size + 1, 1, none⟩) (by simp) (.slice none 0 0)
      go_wp2
      exact bodyPost_ret (v := .tuple #[.agg #[.slice none 0 0, .slice none 0 0], (.int .i64 2)]) (by simp [results, Try.results33, go_sem, x0, x1]) rfl (nilA T9 2)
set_option maxHeartbeats 4000000 in
theorem FFs_is (s t : List Int) (hsl : s.length ≤ 9223372036854775807) (i : Int) (u : Value) (w : World) (hu : Ac w u s t) :
    Calls Try.prog 32 #[u, (.int .i64 i)] w (RetA (ffS s t i) (ffT s t i) (ptCode s t i) w) := by
  have HI := Lib.hid (fun w' (h : Below w.heap.size w w') => l10Code_is u s t hsl i w' (hu.below h))
  by_cases hc : ptCode s t i = 0
  · have hA : isA s t = true := by
      rcases hA : isA s t with _ | _
      · simp [ptCode, hA] at hc
      · rfl
    have hr : 0 ≤ i ∧ i < (s.length : Int) := by
      simp only [ptCode, hA, if_true] at hc
      by_cases h : 0 ≤ i ∧ i < (s.length : Int)
      · exact h
      · rw [if_neg h] at hc; omega
    have ia := isA_is hA
    have hn := ia.n72
    obtain ⟨j, rfl⟩ : ∃ j : Nat, i = j := ⟨i.toNat, by omega⟩
    have e1 : ffS s t (j : Int) = frm s t j s.length s := by simp [ffS, hc]
    have e2 : ffT s t (j : Int) = frm s t j s.length t := by simp [ffT, hc]
    have HF := Lib.hid (l10FormJ_at ia hu j (by omega))
    rw [hc] at HI
    rw [hc, e1, e2]
    generalize frm s t j s.length s = fs at *
    generalize frm s t j s.length t = ft at *
    obtain ⟨ad, c, ad', c', rfl⟩ := hu.shape
    clear hu hA hc e1 e2 ia hr
    generalize s.length = n at *
    generalize t.length = m at *
    go_enter Try.func32, Try.ntmps32
    go_wp2_with fail
    refine (HI.out _ (by repeat (first | with_reducible exact own_refl _ | with_reducible assumption | with_reducible apply own_alloc | with_reducible apply own_drewN | with_reducible apply own_drew | ((with_reducible refine own_setCell ?_ ?_ _); rotate_left; focus (first | (simp; done) | (simp; omega))) | (with_reducible (refine own_trans ?_ (by assumption)))))).mono ?_
    rintro e w2 ⟨rfl, hb2⟩
    have T2 : Below w.heap.size w w2 := by repeat (first | with_reducible exact own_refl _ | with_reducible assumption | with_reducible apply own_alloc | with_reducible apply own_drewN | with_reducible apply own_drew | ((with_reducible refine own_setCell ?_ ?_ _); rotate_left; focus (first | (simp; done) | (simp; omega))) | (with_reducible (refine own_trans ?_ (by assumption))))
    have Bw2_0 : Box w2 (w.heap.size) [.slice ad n c, .slice ad' m c'] := by refine Box.below ?_ hb2; repeat (first | with_reducible assumption | with_reducible exact Box.new _ _ _ | (with_reducible refine Box.newAt ?_ _ _; (simp; done)) | with_reducible apply Box.alloc | with_reducible apply Box.drewN | with_reducible apply Box.drew)
    obtain ⟨_, _, _, _, _⟩ := Bw2_0.two
    have Bw2_1 : Box w2 (w.heap.size + 1) [.slice none 0 0, .slice none 0 0] := by refine Box.below ?_ hb2; repeat (first | with_reducible assumption | with_reducible exact Box.new _ _ _ | (with_reducible refine Box.newAt ?_ _ _; (simp; done)) | with_reducible apply Box.alloc | with_reducible apply Box.drewN | with_reducible apply Box.drew)
    obtain ⟨_, _, _, _, _⟩ := Bw2_1.two
    go_wp2_with fail
    refine (HF.out _ T2).mono ?_
    rintro e w4 ⟨v5, rfl, hA5, hb4⟩
    have T4 := own_trans T2 hb4
    have C4 := Bw2_1.below hb4
    have hz3 := Bw2_1.1
    obtain ⟨a5, c5, b5, d5, e5⟩ := hA5.shape
    subst e5
    obtain ⟨a6, b6, e6, GA, GB, hap⟩ := hA5
    injection e6 with e6
    have ea : a6 = .slice a5 fs.length c5 := by have := congrArg (fun x => x[0]?) e6; simpa using this.symm
    have eb : b6 = .slice b5 ft.length d5 := by have := congrArg (fun x => x[1]?) e6; simpa using this.symm
    subst ea eb
    obtain ⟨-, d0, d1, f0, f1⟩ := C4.two
    have C9 := C4.put2 (.slice a5 fs.length c5) (.slice b5 ft.length d5)
    obtain ⟨-, x0, x1, -, -⟩ := C9.two
    have GA9 := (GA.set (p := ⟨w.heap.size + 1, 0, none⟩) (by simp; omega) (.slice a5 fs.length c5)).set (p := ⟨w.heap.size + 1, 1, none⟩) (by simp; omega) (.slice b5 ft.length d5)
    have GB9 := (GB.set (p := ⟨w.heap.size + 1, 0, none⟩) (by simp; omega) (.slice a5 fs.length c5)).set (p := ⟨w.heap.size + 1, 1, none⟩) (by simp; omega) (.slice b5 ft.length d5)
    have T9 := own_setCell (own_setCell T4 (p := ⟨w.heap.size + 1, 0, none⟩) (by simp) (.slice a5 fs.length c5)) (p := ⟨w.heap.size + 1, 1, none⟩) (by simp) (.slice b5 ft.length d5)
    have HE : Hid (RetA fs ft 0 w (.returned (.tuple #[.agg #[.slice a5 fs.length c5, .slice b5 ft.length d5], (.int .i64 0)])) ((w4.setCell ⟨w.heap.size + 1, 0, none⟩ (.slice a5 fs.length c5)).setCell ⟨w.heap.size + 1, 1, none⟩ (.slice b5 ft.length d5))) := Lib.hid ⟨_, rfl, ⟨_, _, rfl, GA9.weakL (by omega), GB9.weakL (by omega), hap⟩, T9⟩
    clear GA9 GB9 T9 C9 GA GB hap e6
    go_wp2
    exact bodyPost_ret (v := .tuple #[.agg #[.slice a5 fs.length c5, .slice b5 ft.length d5], (.int .i64 0)]) (by simp [results, Try.results32, go_sem, x0, x1]) rfl HE.out
  · have e1 : ffS s t i = [] := by simp [ffS, hc]
    have e2 : ffT s t i = [] := by simp [ffT, hc]
    rw [e1, e2]
    generalize ptCode s t i = kc at *
    obtain ⟨ad, c, ad', c', rfl⟩ := hu.shape
    clear hu e1 e2
    generalize s.length = n at *
    generalize t.length = m at *
    go_enter Try.func32, Try.ntmps32
    go_wp2_with fail
    refine (HI.out _ (by repeat (first | with_reducible exact own_refl _ | with_reducible assumption | with_reducible apply own_alloc | with_reducible apply own_drewN | with_reducible apply own_drew | ((with_reducible refine own_setCell ?_ ?_ _); rotate_left; focus (first | (simp; done) | (simp; omega))) | (with_reducible (refine own_trans ?_ (by assumption)))))).mono ?_
    rintro e w2 ⟨rfl, hb2⟩
    have T2 : Below w.heap.size w w2 := by repeat (first | with_reducible exact own_refl _ | with_reducible assumption | with_reducible apply own_alloc | with_reducible apply own_drewN | with_reducible apply own_drew | ((with_reducible refine own_setCell ?_ ?_ _); rotate_left; focus (first | (simp; done) | (simp; omega))) | (with_reducible (refine own_trans ?_ (by assumption))))
    have Bw2_0 : Box w2 (w.heap.size) [.slice ad n c, .slice ad' m c'] := by refine Box.below ?_ hb2; repeat (first | with_reducible assumption | with_reducible exact Box.new _ _ _ | (with_reducible refine Box.newAt ?_ _ _; (simp; done)) | with_reducible apply Box.alloc | with_reducible apply Box.drewN | with_reducible apply Box.drew)
    obtain ⟨_, _, _, _, _⟩ := Bw2_0.two
    have Bw2_1 : Box w2 (w.heap.size + 1) [.slice none 0 0, .slice none 0 0] := by refine Box.below ?_ hb2; repeat (first | with_reducible assumption | with_reducible exact Box.new _ _ _ | (with_reducible refine Box.newAt ?_ _ _; (simp; done)) | with_reducible apply Box.alloc | with_reducible apply Box.drewN | with_reducible apply Box.drew)
    obtain ⟨_, _, _, _, _⟩ := Bw2_1.two
    obtain ⟨-, d0, d1, f0, f1⟩ := Bw2_1.two
    have C9 := Bw2_1.put2 (.slice none 0 0) (.slice none 0 0)
    obtain ⟨-, x0, x1, -, -⟩ := C9.two
    have T9 := own_setCell (own_setCell T2 (p := ⟨w.heap.size + 1, 0, none⟩) (by simp) (.slice none 0 0)) (p := ⟨w.heap.size + 1, 1, none⟩) (by simp) (.slice none 0 0)
    go_wp2
    exact bodyPost_ret (v := .tuple #[.agg #[.slice none 0 0, .slice none 0 0], (.int .i64 kc)]) (by simp [results, Try.results32, go_sem, x0, x1]) rfl (nilA T9 kc)
end Go.Proofs.Ytfchfakkbdfajaa
