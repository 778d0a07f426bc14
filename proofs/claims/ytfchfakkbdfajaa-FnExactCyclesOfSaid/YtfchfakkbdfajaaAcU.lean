/- CyclesOf and GenusOfAction: both sides. -/
import Derived.Test.YtfchfakkbdfajaaAcJ
namespace Go.Proofs.Ytfchfakkbdfajaa
open Go.ChangeShapes Go.WideShapes Go.ChangeAt Go.RowKit

def cyA (s t : List Int) : List (List Int) := if isA s t then (cyQ t s.length s.length).2 else []
def cyC (s t : List Int) : Int := if isA s t then 0 else 1
def RetV (xss : List (List Int)) (k : Int) (w : World) (e : Ending) (w' : World) : Prop :=
  ∃ v, e = .returned (.tuple #[v, (.int .i64 k)]) ∧ GrSS w' w.heap.size v xss ∧ Below w.heap.size w w'
theorem cyI_at {u : Value} {s t : List Int} (ia : IsA s t s.length) {w : World} (hu : Ac w u s t) : ∃ a b, u = .agg #[a, b] ∧ ∀ w', Below w.heap.size w w' →
    Calls Try.prog 44 #[b] w' fun e w'' => ∃ v', e = .returned v' ∧ GrSS w'' w'.heap.size v' (cyQ t s.length s.length).2 ∧ Below w'.heap.size w' w'' := by
  obtain ⟨x, y, rfl, hx, hy⟩ := hu
  exact ⟨x, y, rfl, fun w' hb => cyclesA_is t s.length (by have := ia.n72; omega) ia.n1 ia.pT y w' (hy.below hb)⟩
theorem cyS_at {u : Value} {s t : List Int} (ia : IsA s t s.length) {w : World} (hu : Ac w u s t) (w' : World) (hb : Below w.heap.size w w') :
    Calls Try.prog 43 #[u] w' fun e w'' => ∃ v', e = .returned v' ∧ GrSS w'' w'.heap.size v' (cyQ t s.length s.length).2 ∧ Below w'.heap.size w' w'' := by
  obtain ⟨x, y, rfl, hx, hy⟩ := hu.below hb
  exact l10Cycles_is s t s.length (by have := ia.n72; omega) ia.n1 ia.pS ia.pT x y w' hx hy
set_option maxHeartbeats 2000000 in
theorem CYi_is (s t : List Int) (hsl : s.length ≤ 9223372036854775807) (u : Value) (w : World) (hu : Ac w u s t) :
    Calls Try.prog 17 #[u] w (RetV (cyA s t) (cyC s t) w) := by
  have HI := Lib.hid (isA_at u s t hsl w hu)
  rcases hA : isA s t with _ | _
  · have e1 : cyA s t = [] := by simp [cyA, hA]
    have e2 : cyC s t = 1 := by simp [cyC, hA]
    rw [hA] at HI
    rw [e1, e2]
    obtain ⟨ad, c, ad', c', rfl⟩ := hu.shape
    clear hu hA e1 e2
    go_enter Try.func17, Try.ntmps17
    go_wp2_with fail
    refine (HI.out _ (by repeat (first | with_reducible exact own_refl _ | with_reducible assumption | with_reducible apply own_alloc | with_reducible apply own_drewN | with_reducible apply own_drew | ((with_reducible refine own_setCell ?_ ?_ _); rotate_left; focus (first | (simp; done) | (simp; omega))) | (with_reducible (refine own_trans ?_ (by assumption)))))).mono ?_
    rintro e w2 ⟨rfl, hb2⟩
    have T2 : Below w.heap.size w w2 := by repeat (first | with_reducible exact own_refl _ | with_reducible assumption | with_reducible apply own_alloc | with_reducible apply own_drewN | with_reducible apply own_drew | ((with_reducible refine own_setCell ?_ ?_ _); rotate_left; focus (first | (simp; done) | (simp; omega))) | (with_reducible (refine own_trans ?_ (by assumption))))
    go_wp2
    go_ret2
    exact ⟨_, rfl, GrSS.nil _ _, T2⟩
  · have ia := isA_is hA
    have e1 : cyA s t = (cyQ t s.length s.length).2 := by simp [cyA, hA]
    have e2 : cyC s t = 0 := by simp [cyC, hA]
    rw [hA] at HI
    rw [e1, e2]
    obtain ⟨x, y, e, HC⟩ := cyI_at ia hu
    obtain ⟨ad, c, ad', c', e3⟩ := hu.shape
    subst e
    injection e3 with e3
    have ey : y = .slice ad' t.length c' := by have := congrArg (fun z => z[1]?) e3; simpa using this
    have ex : x = .slice ad s.length c := by have := congrArg (fun z => z[0]?) e3; simpa using this
    subst ex ey
    have HC := Lib.hid HC
    clear hu hA e1 e2 e3 ia
    generalize (cyQ t s.length s.length).2 = css at *
    generalize s.length = n at *
    generalize t.length = m at *
    go_enter Try.func17, Try.ntmps17
    go_wp2_with fail
    refine (HI.out _ (by repeat (first | with_reducible exact own_refl _ | with_reducible assumption | with_reducible apply own_alloc | with_reducible apply own_drewN | with_reducible apply own_drew | ((with_reducible refine own_setCell ?_ ?_ _); rotate_left; focus (first | (simp; done) | (simp; omega))) | (with_reducible (refine own_trans ?_ (by assumption)))))).mono ?_
    rintro e w2 ⟨rfl, hb2⟩
    have T2 : Below w.heap.size w w2 := by repeat (first | with_reducible exact own_refl _ | with_reducible assumption | with_reducible apply own_alloc | with_reducible apply own_drewN | with_reducible apply own_drew | ((with_reducible refine own_setCell ?_ ?_ _); rotate_left; focus (first | (simp; done) | (simp; omega))) | (with_reducible (refine own_trans ?_ (by assumption))))
    have Bw2_0 : Box w2 (w.heap.size) [.slice ad n c, .slice ad' m c'] := by refine Box.below ?_ hb2; repeat (first | with_reducible assumption | with_reducible exact Box.new _ _ _ | (with_reducible refine Box.newAt ?_ _ _; (simp; done)) | with_reducible apply Box.alloc | with_reducible apply Box.drewN | with_reducible apply Box.drew)
    obtain ⟨_, _, _, _, _⟩ := Bw2_0.two
    go_wp2_with fail
    refine (HC.out _ T2).mono ?_
    rintro e w3 ⟨v, rfl, hG, hb3⟩
    obtain ⟨av, kv, e⟩ := hG.shape
    subst e
    have hz := T2.size
    go_wp2
    go_ret2
    exact ⟨_, rfl, hG.weakA hz, own_trans T2 hb3⟩
set_option maxHeartbeats 2000000 in
theorem CYs_is (s t : List Int) (hsl : s.length ≤ 9223372036854775807) (u : Value) (w : World) (hu : Ac w u s t) :
    Calls Try.prog 16 #[u] w (RetV (cyA s t) (cyC s t) w) := by
  have HI := Lib.hid (l10Is_at u s t hsl w hu)
  rcases hA : isA s t with _ | _
  · have e1 : cyA s t = [] := by simp [cyA, hA]
    have e2 : cyC s t = 1 := by simp [cyC, hA]
    rw [hA] at HI
    rw [e1, e2]
    obtain ⟨ad, c, ad', c', rfl⟩ := hu.shape
    clear hu hA e1 e2
    go_enter Try.func16, Try.ntmps16
    go_wp2_with fail
    refine (HI.out _ (by repeat (first | with_reducible exact own_refl _ | with_reducible assumption | with_reducible apply own_alloc | with_reducible apply own_drewN | with_reducible apply own_drew | ((with_reducible refine own_setCell ?_ ?_ _); rotate_left; focus (first | (simp; done) | (simp; omega))) | (with_reducible (refine own_trans ?_ (by assumption)))))).mono ?_
    rintro e w2 ⟨rfl, hb2⟩
    have T2 : Below w.heap.size w w2 := by repeat (first | with_reducible exact own_refl _ | with_reducible assumption | with_reducible apply own_alloc | with_reducible apply own_drewN | with_reducible apply own_drew | ((with_reducible refine own_setCell ?_ ?_ _); rotate_left; focus (first | (simp; done) | (simp; omega))) | (with_reducible (refine own_trans ?_ (by assumption))))
    go_wp2
    go_ret2
    exact ⟨_, rfl, GrSS.nil _ _, T2⟩
  · have ia := isA_is hA
    have e1 : cyA s t = (cyQ t s.length s.length).2 := by simp [cyA, hA]
    have e2 : cyC s t = 0 := by simp [cyC, hA]
    rw [hA] at HI
    rw [e1, e2]
    have HC := Lib.hid (cyS_at ia hu)
    obtain ⟨ad, c, ad', c', rfl⟩ := hu.shape
    clear hu hA e1 e2 ia
    generalize (cyQ t s.length s.length).2 = css at *
    generalize s.length = n at *
    generalize t.length = m at *
    go_enter Try.func16, Try.ntmps16
    go_wp2_with fail
    refine (HI.out _ (by repeat (first | with_reducible exact own_refl _ | with_reducible assumption | with_reducible apply own_alloc | with_reducible apply own_drewN | with_reducible apply own_drew | ((with_reducible refine own_setCell ?_ ?_ _); rotate_left; focus (first | (simp; done) | (simp; omega))) | (with_reducible (refine own_trans ?_ (by assumption)))))).mono ?_
    rintro e w2 ⟨rfl, hb2⟩
    have T2 : Below w.heap.size w w2 := by repeat (first | with_reducible exact own_refl _ | with_reducible assumption | with_reducible apply own_alloc | with_reducible apply own_drewN | with_reducible apply own_drew | ((with_reducible refine own_setCell ?_ ?_ _); rotate_left; focus (first | (simp; done) | (simp; omega))) | (with_reducible (refine own_trans ?_ (by assumption))))
    have Bw2_0 : Box w2 (w.heap.size) [.slice ad n c, .slice ad' m c'] := by refine Box.below ?_ hb2; repeat (first | with_reducible assumption | with_reducible exact Box.new _ _ _ | (with_reducible refine Box.newAt ?_ _ _; (simp; done)) | with_reducible apply Box.alloc | with_reducible apply Box.drewN | with_reducible apply Box.drew)
    obtain ⟨_, _, _, _, _⟩ := Bw2_0.two
    go_wp2_with fail
    refine (HC.out _ T2).mono ?_
    rintro e w3 ⟨v, rfl, hG, hb3⟩
    obtain ⟨av, kv, e⟩ := hG.shape
    subst e
    have hz := T2.size
    go_wp2
    go_ret2
    exact ⟨_, rfl, hG.weakA hz, own_trans T2 hb3⟩
end Go.Proofs.Ytfchfakkbdfajaa
