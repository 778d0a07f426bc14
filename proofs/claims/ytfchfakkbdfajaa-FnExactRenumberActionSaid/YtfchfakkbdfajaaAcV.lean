/- RenumberAction: both sides. -/
import Derived.Test.YtfchfakkbdfajaaAcY
namespace Go.Proofs.Ytfchfakkbdfajaa
open Go.ChangeShapes Go.WideShapes Go.ChangeAt Go.RowKit

def rnCode (s t p : List Int) : Int := if isA s t then (if ord p s.length then 0 else 2) else 1
def rnS (s t p : List Int) : List Int := if rnCode s t p = 0 then ren p s else []
def rnT (s t p : List Int) : List Int := if rnCode s t p = 0 then ren p t else []
theorem renI_at {u v : Value} {s t p : List Int} (ia : IsA s t s.length) (hp : Pm p s.length) {w : World} (hu : Ac w u s t) (hv : Rl w v p) (w' : World) (hb : Below w.heap.size w w') :
    Calls Try.prog 51 #[u, v] w' fun e w'' => ∃ r, e = .returned r ∧ AcR w'' w'.heap.size r (ren p s) (ren p t) ∧ Below w'.heap.size w' w'' := by
  obtain ⟨x, y, rfl, hx, hy⟩ := hu.below hb
  exact renum_is x y v s t p s.length (by have := ia.n72; omega) ia.n1 rfl ia.pT.len hp.len ia.pS.b ia.pT.b hp.b w' hx hy (hv.below hb)
theorem renS_at {u v : Value} {s t p : List Int} (ia : IsA s t s.length) (hp : Pm p s.length) {w : World} (hu : Ac w u s t) (hv : Rl w v p) (w' : World) (hb : Below w.heap.size w w') :
    Calls Try.prog 50 #[u, v] w' fun e w'' => ∃ r, e = .returned r ∧ AcR w'' w'.heap.size r (ren p s) (ren p t) ∧ Below w'.heap.size w' w'' := by
  obtain ⟨x, y, rfl, hx, hy⟩ := hu.below hb
  exact l10Renum_is x y v s t p s.length (by have := ia.n72; omega) ia.n1 rfl ia.pT.len hp.len ia.pS.b ia.pT.b hp.b w' hx hy (hv.below hb)
set_option maxHeartbeats 4000000 in
theorem RNi_is (s t p : List Int) (hsl : s.length ≤ 9223372036854775807) (u v : Value) (w : World) (hu : Ac w u s t) (hv : Rl w v p) :
    Calls Try.prog 28 #[u, v] w (RetA (rnS s t p) (rnT s t p) (rnCode s t p) w) := by
  have HI := Lib.hid (isA_at u s t hsl w hu)
  rcases hA : isA s t with _ | _
  · have hc : rnCode s t p = 1 := by simp [rnCode, hA]
    have e1 : rnS s t p = [] := by simp [rnS, hc]
    have e2 : rnT s t p = [] := by simp [rnT, hc]
    rw [hA] at HI
    rw [hc, e1, e2]
    obtain ⟨ad, c, ad', c', rfl⟩ := hu.shape
    obtain ⟨bp, kp, rfl, _⟩ := hv
    clear hu hA hc e1 e2
    generalize s.length = n at *
    generalize t.length = m at *
    generalize p.length = l at *
    go_enter Try.func28, Try.ntmps28
    go_wp2_with fail
    refine (HI.out _ (by repeat (first | with_reducible exact own_refl _ | with_reducible assumption | with_reducible apply own_alloc | with_reducible apply own_drewN | with_reducible apply own_drew | ((with_reducible refine own_setCell ?_ ?_ _); rotate_left; focus (first | (simp; done) | (simp; omega))) | (with_reducible (refine own_trans ?_ (by assumption)))))).mono ?_
    rintro e w2 ⟨rfl, hb2⟩
    have T2 : Below w.heap.size w w2 := by repeat (first | with_reducible exact own_refl _ | with_reducible assumption | with_reducible apply own_alloc | with_reducible apply own_drewN | with_reducible apply own_drew | ((with_reducible refine own_setCell ?_ ?_ _); rotate_left; focus (first | (simp; done) | (simp; omega))) | (with_reducible (refine own_trans ?_ (by assumption))))
    have Bw2_0 : Box w2 (w.heap.size) [.slice ad n c, .slice ad' m c'] := by refine Box.below ?_ hb2; repeat (first | with_reducible assumption | with_reducible exact Box.new _ _ _ | (with_reducible refine Box.newAt ?_ _ _; (simp; done)) | with_reducible apply Box.alloc | with_reducible apply Box.drewN | with_reducible apply Box.drew)
    obtain ⟨_, _, _, _, _⟩ := Bw2_0.two
    have Bw2_1 : Box w2 (w.heap.size + 1) [.slice none 0 0, .slice none 0 0] := by refine Box.below ?_ hb2; repeat (first | with_reducible assumption | with_reducible exact Box.new _ _ _ | (with_reducible refine Box.newAt ?_ _ _; (simp; done)) | with_reducible apply Box.alloc | with_reducible apply Box.drewN | with_reducible apply Box.drew)
    obtain ⟨_, _, _, _, _⟩ := Bw2_1.two
    obtain ⟨-, d0, d1, f0, f1⟩ := Bw2_1.two
    have C9 := Bw2_1.put2 (.slice none 0 0) (.slice none 0 0)
    obtain ⟨-, x0, x1, -, -⟩ := C9.two
    have T9 := own_setCell (own_setCell T2 (p := ⟨w.heap.size + 1, 0, none⟩) (by simp) (.slice none 0 0)) (p := ⟨w.heap.size + 1, 1, none⟩) (by simp) (.slice none 0 0)
    go_wp2
    exact bodyPost_ret (v := .tuple #[.agg #[.slice none 0 0, .slice none 0 0], (.int .i64 1)]) (by simp [results, Try.results28, go_sem, x0, x1]) rfl (nilA T9 1)
  · have ia := isA_is hA
    have hn := ia.n72
    have HP := Lib.hid (fun w' (h : Below w.heap.size w w') => hasEach_is v p s.length (by omega) w' (hv.below h))
    rw [hA] at HI
    rcases hr : ord p s.length with _ | _
    · have hc : rnCode s t p = 2 := by simp [rnCode, hA, hr]
      have e1 : rnS s t p = [] := by simp [rnS, hc]
      have e2 : rnT s t p = [] := by simp [rnT, hc]
      rw [hr] at HP
      rw [hc, e1, e2]
      obtain ⟨ad, c, ad', c', rfl⟩ := hu.shape
      obtain ⟨bp, kp, rfl, _⟩ := hv
      clear hu hA hc e1 e2 ia hr
      generalize s.length = n at *
      generalize t.length = m at *
      generalize p.length = l at *
      go_enter Try.func28, Try.ntmps28
      go_wp2_with fail
      refine (HI.out _ (by repeat (first | with_reducible exact own_refl _ | with_reducible assumption | with_reducible apply own_alloc | with_reducible apply own_drewN | with_reducible apply own_drew | ((with_reducible refine own_setCell ?_ ?_ _); rotate_left; focus (first | (simp; done) | (simp; omega))) | (with_reducible (refine own_trans ?_ (by assumption)))))).mono ?_
      rintro e w2 ⟨rfl, hb2⟩
      have T2 : Below w.heap.size w w2 := by repeat (first | with_reducible exact own_refl _ | with_reducible assumption | with_reducible apply own_alloc | with_reducible apply own_drewN | with_reducible apply own_drew | ((with_reducible refine own_setCell ?_ ?_ _); rotate_left; focus (first | (simp; done) | (simp; omega))) | (with_reducible (refine own_trans ?_ (by assumption))))
      have Bw2_0 : Box w2 (w.heap.size) [.slice ad n c, .slice ad' m c'] := by refine Box.below ?_ hb2; repeat (first | with_reducible assumption | with_reducible exact Box.new _ _ _ | (with_reducible refine Box.newAt ?_ _ _; (simp; done)) | with_reducible apply Box.alloc | with_reducible apply Box.drewN | with_reducible apply Box.drew)
      obtain ⟨_, _, _, _, _⟩ := Bw2_0.two
      have Bw2_1 : Box w2 (w.heap.size + 1) [.slice none 0 0, .slice none 0 0] := by refine Box.below ?_ hb2; repeat (first | with_reducible assumption | with_reducible exact Box.new _ _ _ | (with_reducible refine Box.newAt ?_ _ _; (simp; done)) | with_reducible apply Box.alloc | with_reducible apply Box.drewN | with_reducible apply Box.drew)
      obtain ⟨_, _, _, _, _⟩ := Bw2_1.two
      go_wp2_with fail
      refine (HP.out _ T2).mono ?_
      rintro e w3 ⟨rfl, hb3⟩
      have T3 := own_trans T2 hb3
      have B3 := Bw2_0.below hb3
      have C3 := Bw2_1.below hb3
      obtain ⟨-, d0, d1, f0, f1⟩ := C3.two
      have C9 := C3.put2 (.slice none 0 0) (.slice none 0 0)
      obtain ⟨-, x0, x1, -, -⟩ := C9.two
      have T9 := own_setCell (own_setCell T3 (p := ⟨w.heap.size + 1, 0, none⟩) (by simp) (.slice none 0 0)) (p := ⟨w.heap.size + 1, 1, none⟩) (by simp) (.slice none 0 0)
      go_wp2
      exact bodyPost_ret (v := .tuple #[.agg #[.slice none 0 0, .slice none 0 0], (.int .i64 2)]) (by simp [results, Try.results28, go_sem, x0, x1]) rfl (nilA T9 2)
    · have hc : rnCode s t p = 0 := by simp [rnCode, hA, hr]
      have e1 : rnS s t p = ren p s := by simp [rnS, hc]
      have e2 : rnT s t p = ren p t := by simp [rnT, hc]
      have HF := Lib.hid (renI_at ia (ord_is hr) hu hv)
      rw [hr] at HP
      rw [hc, e1, e2]
      generalize ren p s = fs at *
      generalize ren p t = ft at *
      obtain ⟨ad, c, ad', c', rfl⟩ := hu.shape
      obtain ⟨bp, kp, rfl, _⟩ := hv
      clear hu hA hc e1 e2 ia hr
      generalize s.length = n at *
      generalize t.length = m at *
      generalize p.length = l at *
      go_enter Try.func28, Try.ntmps28
      go_wp2_with fail
      refine (HI.out _ (by repeat (first | with_reducible exact own_refl _ | with_reducible assumption | with_reducible apply own_alloc | with_reducible apply own_drewN | with_reducible apply own_drew | ((with_reducible refine own_setCell ?_ ?_ _); rotate_left; focus (first | (simp; done) | (simp; omega))) | (with_reducible (refine own_trans ?_ (by assumption)))))).mono ?_
      rintro e w2 ⟨rfl, hb2⟩
      have T2 : Below w.heap.size w w2 := by repeat (first | with_reducible exact own_refl _ | with_reducible assumption | with_reducible apply own_alloc | with_reducible apply own_drewN | with_reducible apply own_drew | ((with_reducible refine own_setCell ?_ ?_ _); rotate_left; focus (first | (simp; done) | (simp; omega))) | (with_reducible (refine own_trans ?_ (by assumption))))
      have Bw2_0 : Box w2 (w.heap.size) [.slice ad n c, .slice ad' m c'] := by refine Box.below ?_ hb2; repeat (first | with_reducible assumption | with_reducible exact Box.new _ _ _ | (with_reducible refine Box.newAt ?_ _ _; (simp; done)) | with_reducible apply Box.alloc | with_reducible apply Box.drewN | with_reducible apply Box.drew)
      obtain ⟨_, _, _, _, _⟩ := Bw2_0.two
      have Bw2_1 : Box w2 (w.heap.size + 1) [.slice none 0 0, .slice none 0 0] := by refine Box.below ?_ hb2; repeat (first | with_reducible assumption | with_reducible exact Box.new _ _ _ | (with_reducible refine Box.newAt ?_ _ _; (simp; done)) | with_reducible apply Box.alloc | with_reducible apply Box.drewN | with_reducible apply Box.drew)
      obtain ⟨_, _, _, _, _⟩ := Bw2_1.two
      go_wp2_with fail
      refine (HP.out _ T2).mono ?_
      rintro e w3 ⟨rfl, hb3⟩
      have T3 := own_trans T2 hb3
      have B3 := Bw2_0.below hb3
      have C3 := Bw2_1.below hb3
      obtain ⟨-, b0, b1, -, -⟩ := B3.two
      go_wp2_with fail
      refine (HF.out _ T3).mono ?_
      rintro e w4 ⟨v5, rfl, hA5, hb4⟩
      have T4 := own_trans T3 hb4
      have C4 := C3.below hb4
      have hz3 := C3.1
      obtain ⟨a5, c5, b5, d5, e5⟩ := hA5.shape
      subst e5
      obtain ⟨a6, b6, e6, GA, GB, hap⟩ := hA5
      injection e6 with e6
      have ea : a6 = .slice a5 fs.length c5 := by have := congrArg (fun x => x[0]?) e6; simpa using this.symm
      have eb : b6 = .slice b5 ft.length d5 := by have := congrArg (fun x => x[1]?) e6; simpa using this.symm
      subst ea eb
      obtain ⟨-, d0, d1, f0, f1⟩ := C4.two
      have C9 := C4.put2 (.slice a5 fs.length c5) (.slice b5 ft.length d5)
      obtain ⟨-, x0, x1, -, -⟩ := C9.two
      have GA9 := (GA.set (p := ⟨w.heap.size + 1, 0, none⟩) (by simp; omega) (.slice a5 fs.length c5)).set (p := ⟨w.heap.size + 1, 1, none⟩) (by simp; omega) (.slice b5 ft.length d5)
      have GB9 := (GB.set (p := ⟨w.heap.size + 1, 0, none⟩) (by simp; omega) (.slice a5 fs.length c5)).set (p := ⟨w.heap.size + 1, 1, none⟩) (by simp; omega) (.slice b5 ft.length d5)
      have T9 := own_setCell (own_setCell T4 (p := ⟨w.heap.size + 1, 0, none⟩) (by simp) (.slice a5 fs.length c5)) (p := ⟨w.heap.size + 1, 1, none⟩) (by simp) (.slice b5 ft.length d5)
      have HE : Hid (RetA fs ft 0 w (.returned (.tuple #[.agg #[.slice a5 fs.length c5, .slice b5 ft.length d5], (.int .i64 0)])) ((w4.setCell ⟨w.heap.size + 1, 0, none⟩ (.slice a5 fs.length c5)).setCell ⟨w.heap.size + 1, 1, none⟩ (.slice b5 ft.length d5))) := Lib.hid ⟨_, rfl, ⟨_, _, rfl, GA9.weakL (by omega), GB9.weakL (by omega), hap⟩, T9⟩
      clear GA9 GB9 T9 C9 GA GB hap e6
      go_wp2
      exact bodyPost_ret (v := .tuple #[.agg #[.slice a5 fs.length c5, .slice b5 ft.length d5], (.int .i64 0)]) (by simp [results, Try.results28, go_sem, x0, x1]) rfl HE.out
set_option maxHeartbeats 4000000 in
theorem RNs_is (s t p : List Int) (hsl : s.length ≤ 9223372036854775807) (u v : Value) (w : World) (hu : Ac w u s t) (hv : Rl w v p) :
    Calls Try.prog 26 #[u, v] w (RetA (rnS s t p) (rnT s t p) (rnCode s t p) w) := by
  have HI := Lib.hid (l10Is_at u s t hsl w hu)
  rcases hA : isA s t with _ | _
  · have hc : rnCode s t p = 1 := by simp [rnCode, hA]
    have e1 : rnS s t p = [] := by simp [rnS, hc]
    have e2 : rnT s t p = [] := by simp [rnT, hc]
    rw [hA] at HI
    rw [hc, e1, e2]
    obtain ⟨ad, c, ad', c', rfl⟩ := hu.shape
    obtain ⟨bp, kp, rfl, _⟩ := hv
    clear hu hA hc e1 e2
    generalize s.length = n at *
    generalize t.length = m at *
    generalize p.length = l at *
    go_enter Try.func26, Try.ntmps26
    go_wp2_with fail
    refine (HI.out _ (by repeat (first | with_reducible exact own_refl _ | with_reducible assumption | with_reducible apply own_alloc | with_reducible apply own_drewN | with_reducible apply own_drew | ((with_reducible refine own_setCell ?_ ?_ _); rotate_left; focus (first | (simp; done) | (simp; omega))) | (with_reducible (refine own_trans ?_ (by assumption)))))).mono ?_
    rintro e w2 ⟨rfl, hb2⟩
    have T2 : Below w.heap.size w w2 := by repeat (first | with_reducible exact own_refl _ | with_reducible assumption | with_reducible apply own_alloc | with_reducible apply own_drewN | with_reducible apply own_drew | ((with_reducible refine own_setCell ?_ ?_ _); rotate_left; focus (first | (simp; done) | (simp; omega))) | (with_reducible (refine own_trans ?_ (by assumption))))
    have Bw2_0 : Box w2 (w.heap.size) [.slice ad n c, .slice ad' m c'] := by refine Box.below ?_ hb2; repeat (first | with_reducible assumption | with_reducible exact Box.new _ _ _ | (with_reducible refine Box.newAt ?_ _ _; (simp; done)) | with_reducible apply Box.alloc | with_reducible apply Box.drewN | with_reducible apply Box.drew)
    obtain ⟨_, _, _, _, _⟩ := Bw2_0.two
    have Bw2_1 : Box w2 (w.heap.size + 1) [.slice none 0 0, .slice none 0 0] := by refine Box.below ?_ hb2; repeat (first | with_reducible assumption | with_reducible exact Box.new _ _ _ | (with_reducible refine Box.newAt ?_ _ _; (simp; done)) | with_reducible apply Box.alloc | with_reducible apply Box.drewN | with_reducible apply Box.drew)
    obtain ⟨_, _, _, _, _⟩ := Bw2_1.two
    obtain ⟨-, d0, d1, f0, f1⟩ := Bw2_1.two
    have C9 := Bw2_1.put2 (.slice none 0 0) (.slice none 0 0)
    obtain ⟨-, x0, x1, -, -⟩ := C9.two
    have T9 := own_setCell (own_setCell T2 (p := ⟨w.heap.size + 1, 0, none⟩) (by simp) (.slice none 0 0)) (p := ⟨w.heap.size + 1, 1, none⟩) (by simp) (.slice none 0 0)
    go_wp2
    exact bodyPost_ret (v := .tuple #[.agg #[.slice none 0 0, .slice none 0 0], (.int .i64 1)]) (by simp [results, Try.results26, go_sem, x0, x1]) rfl (nilA T9 1)
  · have ia := isA_is hA
    have hn := ia.n72
    have HP := Lib.hid (fun w' (h : Below w.heap.size w w') => l10Order_is v p s.length (by omega) w' (hv.below h))
    rw [hA] at HI
    rcases hr : ord p s.length with _ | _
    · have hc : rnCode s t p = 2 := by simp [rnCode, hA, hr]
      have e1 : rnS s t p = [] := by simp [rnS, hc]
      have e2 : rnT s t p = [] := by simp [rnT, hc]
      rw [hr] at HP
      rw [hc, e1, e2]
      obtain ⟨ad, c, ad', c', rfl⟩ := hu.shape
      obtain ⟨bp, kp, rfl, _⟩ := hv
      clear hu hA hc e1 e2 ia hr
      generalize s.length = n at *
      generalize t.length = m at *
      generalize p.length = l at *
      go_enter Try.func26, Try.ntmps26
      go_wp2_with fail
      refine (HI.out _ (by repeat (first | with_reducible exact own_refl _ | with_reducible assumption | with_reducible apply own_alloc | with_reducible apply own_drewN | with_reducible apply own_drew | ((with_reducible refine own_setCell ?_ ?_ _); rotate_left; focus (first | (simp; done) | (simp; omega))) | (with_reducible (refine own_trans ?_ (by assumption)))))).mono ?_
      rintro e w2 ⟨rfl, hb2⟩
      have T2 : Below w.heap.size w w2 := by repeat (first | with_reducible exact own_refl _ | with_reducible assumption | with_reducible apply own_alloc | with_reducible apply own_drewN | with_reducible apply own_drew | ((with_reducible refine own_setCell ?_ ?_ _); rotate_left; focus (first | (simp; done) | (simp; omega))) | (with_reducible (refine own_trans ?_ (by assumption))))
      have Bw2_0 : Box w2 (w.heap.size) [.slice ad n c, .slice ad' m c'] := by refine Box.below ?_ hb2; repeat (first | with_reducible assumption | with_reducible exact Box.new _ _ _ | (with_reducible refine Box.newAt ?_ _ _; (simp; done)) | with_reducible apply Box.alloc | with_reducible apply Box.drewN | with_reducible apply Box.drew)
      obtain ⟨_, _, _, _, _⟩ := Bw2_0.two
      have Bw2_1 : Box w2 (w.heap.size + 1) [.slice none 0 0, .slice none 0 0] := by refine Box.below ?_ hb2; repeat (first | with_reducible assumption | with_reducible exact Box.new _ _ _ | (with_reducible refine Box.newAt ?_ _ _; (simp; done)) | with_reducible apply Box.alloc | with_reducible apply Box.drewN | with_reducible apply Box.drew)
      obtain ⟨_, _, _, _, _⟩ := Bw2_1.two
      go_wp2_with fail
      refine (HP.out _ T2).mono ?_
      rintro e w3 ⟨rfl, hb3⟩
      have T3 := own_trans T2 hb3
      have B3 := Bw2_0.below hb3
      have C3 := Bw2_1.below hb3
      obtain ⟨-, d0, d1, f0, f1⟩ := C3.two
      have C9 := C3.put2 (.slice none 0 0) (.slice none 0 0)
      obtain ⟨-, x0, x1, -, -⟩ := C9.two
      have T9 := own_setCell (own_setCell T3 (p := ⟨w.heap.size + 1, 0, none⟩) (by simp) (.slice none 0 0)) (p := ⟨w.heap.size + 1, 1, none⟩) (by simp) (.slice none 0 0)
      go_wp2
      exact bodyPost_ret (v := .tuple #[.agg #[.slice none 0 0, .slice none 0 0], (.int .i64 2)]) (by simp [results, Try.results26, go_sem, x0, x1]) rfl (nilA T9 2)
    · have hc : rnCode s t p = 0 := by simp [rnCode, hA, hr]
      have e1 : rnS s t p = ren p s := by simp [rnS, hc]
      have e2 : rnT s t p = ren p t := by simp [rnT, hc]
      have HF := Lib.hid (renS_at ia (ord_is hr) hu hv)
      rw [hr] at HP
      rw [hc, e1, e2]
      generalize ren p s = fs at *
      generalize ren p t = ft at *
      obtain ⟨ad, c, ad', c', rfl⟩ := hu.shape
      obtain ⟨bp, kp, rfl, _⟩ := hv
      clear hu hA hc e1 e2 ia hr
      generalize s.length = n at *
      generalize t.length = m at *
      generalize p.length = l at *
      go_enter Try.func26, Try.ntmps26
      go_wp2_with fail
      refine (HI.out _ (by repeat (first | with_reducible exact own_refl _ | with_reducible assumption | with_reducible apply own_alloc | with_reducible apply own_drewN | with_reducible apply own_drew | ((with_reducible refine own_setCell ?_ ?_ _); rotate_left; focus (first | (simp; done) | (simp; omega))) | (with_reducible (refine own_trans ?_ (by assumption)))))).mono ?_
      rintro e w2 ⟨rfl, hb2⟩
      have T2 : Below w.heap.size w w2 := by repeat (first | with_reducible exact own_refl _ | with_reducible assumption | with_reducible apply own_alloc | with_reducible apply own_drewN | with_reducible apply own_drew | ((with_reducible refine own_setCell ?_ ?_ _); rotate_left; focus (first | (simp; done) | (simp; omega))) | (with_reducible (refine own_trans ?_ (by assumption))))
      have Bw2_0 : Box w2 (w.heap.size) [.slice ad n c, .slice ad' m c'] := by refine Box.below ?_ hb2; repeat (first | with_reducible assumption | with_reducible exact Box.new _ _ _ | (with_reducible refine Box.newAt ?_ _ _; (simp; done)) | with_reducible apply Box.alloc | with_reducible apply Box.drewN | with_reducible apply Box.drew)
      obtain ⟨_, _, _, _, _⟩ := Bw2_0.two
      have Bw2_1 : Box w2 (w.heap.size + 1) [.slice none 0 0, .slice none 0 0] := by refine Box.below ?_ hb2; repeat (first | with_reducible assumption | with_reducible exact Box.new _ _ _ | (with_reducible refine Box.newAt ?_ _ _; (simp; done)) | with_reducible apply Box.alloc | with_reducible apply Box.drewN | with_reducible apply Box.drew)
      obtain ⟨_, _, _, _, _⟩ := Bw2_1.two
      go_wp2_with fail
      refine (HP.out _ T2).mono ?_
      rintro e w3 ⟨rfl, hb3⟩
      have T3 := own_trans T2 hb3
      have B3 := Bw2_0.below hb3
      have C3 := Bw2_1.below hb3
      obtain ⟨-, b0, b1, -, -⟩ := B3.two
      go_wp2_with fail
      refine (HF.out _ T3).mono ?_
      rintro e w4 ⟨v5, rfl, hA5, hb4⟩
      have T4 := own_trans T3 hb4
      have C4 := C3.below hb4
      have hz3 := C3.1
      obtain ⟨a5, c5, b5, d5, e5⟩ := hA5.shape
      subst e5
      obtain ⟨a6, b6, e6, GA, GB, hap⟩ := hA5
      injection e6 with e6
      have ea : a6 = .slice a5 fs.length c5 := by have := congrArg (fun x => x[0]?) e6; simpa using this.symm
      have eb : b6 = .slice b5 ft.length d5 := by have := congrArg (fun x => x[1]?) e6; simpa using this.symm
      subst ea eb
      obtain ⟨-, d0, d1, f0, f1⟩ := C4.two
      have C9 := C4.put2 (.slice a5 fs.length c5) (.slice b5 ft.length d5)
      obtain ⟨-, x0, x1, -, -⟩ := C9.two
      have GA9 := (GA.set (p := ⟨w.heap.size + 1, 0, none⟩) (by simp; omega) (.slice a5 fs.length c5)).set (p := ⟨w.heap.size + 1, 1, none⟩) (by simp; omega) (.slice b5 ft.length d5)
      have GB9 := (GB.set (p := ⟨w.heap.size + 1, 0, none⟩) (by simp; omega) (.slice a5 fs.length c5)).set (p := ⟨w.heap.size + 1, 1, none⟩) (by simp; omega) (.slice b5 ft.length d5)
      have T9 := own_setCell (own_setCell T4 (p := ⟨w.heap.size + 1, 0, none⟩) (by simp) (.slice a5 fs.length c5)) (p := ⟨w.heap.size + 1, 1, none⟩) (by simp) (.slice b5 ft.length d5)
      have HE : Hid (RetA fs ft 0 w (.returned (.tuple #[.agg #[.slice a5 fs.length c5, .slice b5 ft.length d5], (.int .i64 0)])) ((w4.setCell ⟨w.heap.size + 1, 0, none⟩ (.slice a5 fs.length c5)).setCell ⟨w.heap.size + 1, 1, none⟩ (.slice b5 ft.length d5))) := Lib.hid ⟨_, rfl, ⟨_, _, rfl, GA9.weakL (by omega), GB9.weakL (by omega), hap⟩, T9⟩
      clear GA9 GB9 T9 C9 GA GB hap e6
      go_wp2
      exact bodyPost_ret (v := .tuple #[.agg #[.slice a5 fs.length c5, .slice b5 ft.length d5], (.int .i64 0)]) (by simp [results, Try.results26, go_sem, x0, x1]) rfl HE.out
end Go.Proofs.Ytfchfakkbdfajaa
