/- Points of an action: both sides' tests. -/
import Derived.Test.YtfchfakkbdfajaaDoorAcK
namespace Go.Proofs.YtfchfakkbdfajaaDoor
open Go.ChangeShapes Go.WideShapes Go.ChangeAt Go.RowKit

/-- a point and its code -/
def ptCode (s t : List Int) (i : Int) : Int := if isA s t then (if 0 ≤ i ∧ i < (s.length : Int) then 0 else 2) else 1
theorem hasP_is (u : Value) (s t : List Int) (n : Nat) (hn : s.length = n) (i : Int) (b : Bool) (hb : decide (0 ≤ i ∧ i < (n : Int)) = b) (w : World) (hu : Ac w u s t) :
    Calls Tryd.prog 29 #[u, (.int .i64 i)] w fun e w' => e = .returned (.bool b) ∧ Below w.heap.size w w' := by
  obtain ⟨ad, c, ad', c', rfl⟩ := hu.shape
  rw [hn]
  generalize t.length = m at *
  clear hu
  by_cases h1 : 0 ≤ i
  · by_cases h2 : i < (n : Int)
    · rw [decide_eq_true ⟨h1, h2⟩] at hb
      subst hb
      clear hn
      go_enter Tryd.func29, Tryd.ntmps29
      go_wp2
      go_ret
      exact ⟨ret_bool (by simp), by repeat (first | with_reducible exact own_refl _ | with_reducible assumption | with_reducible apply own_alloc | with_reducible apply own_drewN | with_reducible apply own_drew | ((with_reducible refine own_setCell ?_ ?_ _); rotate_left; focus (first | (simp; done) | (simp; omega))) | (with_reducible (refine own_trans ?_ (by assumption))))⟩
    · rw [decide_eq_false (fun h => h2 h.2)] at hb
      subst hb
      clear hn
      go_enter Tryd.func29, Tryd.ntmps29
      go_wp2
      go_ret
      exact ⟨ret_bool (by simp), by repeat (first | with_reducible exact own_refl _ | with_reducible assumption | with_reducible apply own_alloc | with_reducible apply own_drewN | with_reducible apply own_drew | ((with_reducible refine own_setCell ?_ ?_ _); rotate_left; focus (first | (simp; done) | (simp; omega))) | (with_reducible (refine own_trans ?_ (by assumption))))⟩
  · rw [decide_eq_false (fun h => h1 h.1)] at hb
    subst hb
    clear hn
    go_enter Tryd.func29, Tryd.ntmps29
    go_wp2
    go_ret
    exact ⟨rfl, by repeat (first | with_reducible exact own_refl _ | with_reducible assumption | with_reducible apply own_alloc | with_reducible apply own_drewN | with_reducible apply own_drew | ((with_reducible refine own_setCell ?_ ?_ _); rotate_left; focus (first | (simp; done) | (simp; omega))) | (with_reducible (refine own_trans ?_ (by assumption))))⟩
theorem l10Code_is (u : Value) (s t : List Int) (hsl : s.length ≤ 9223372036854775807) (i : Int) (w : World) (hu : Ac w u s t) :
    Calls Tryd.prog 22 #[u, (.int .i64 i)] w fun e w' => e = .returned (.int .i64 (ptCode s t i)) ∧ Below w.heap.size w w' := by
  have HI := Lib.hid (l10Is_at u s t hsl w hu)
  rcases hA : isA s t with _ | _
  · have HR : Hid (ptCode s t i = 1) := Lib.hid (by simp [ptCode, hA])
    rw [hA] at HI
    rw [HR.out]
    obtain ⟨ad, c, ad', c', rfl⟩ := hu.shape
    clear hu hA
    go_enter Tryd.func22, Tryd.ntmps22
    go_wp2_with fail
    refine (HI.out _ (by repeat (first | with_reducible exact own_refl _ | with_reducible assumption | with_reducible apply own_alloc | with_reducible apply own_drewN | with_reducible apply own_drew | ((with_reducible refine own_setCell ?_ ?_ _); rotate_left; focus (first | (simp; done) | (simp; omega))) | (with_reducible (refine own_trans ?_ (by assumption)))))).mono ?_
    rintro e w2 ⟨rfl, hb2⟩
    go_wp2
    go_ret
    exact ⟨rfl, by repeat (first | with_reducible exact own_refl _ | with_reducible assumption | with_reducible apply own_alloc | with_reducible apply own_drewN | with_reducible apply own_drew | ((with_reducible refine own_setCell ?_ ?_ _); rotate_left; focus (first | (simp; done) | (simp; omega))) | (with_reducible (refine own_trans ?_ (by assumption))))⟩
  · have hn := (isA_is hA).n72
    have hn1 := (isA_is hA).n1
    rw [hA] at HI
    obtain ⟨b, hb⟩ : ∃ b, inR i 0 ((s.length : Int) - 1) = b := ⟨_, rfl⟩
    have HN := Lib.hid (fun w => l01In_is b i 0 ((s.length : Int) - 1) hb w)
    have HR : Hid (ptCode s t i = if b then 0 else 2) := Lib.hid (by
      unfold ptCode
      rw [hA, if_pos rfl, ← hb]
      by_cases h : 0 ≤ i ∧ i < (s.length : Int)
      · rw [if_pos h, show inR i 0 ((s.length : Int) - 1) = true from decide_eq_true (by omega)]; rfl
      · rw [if_neg h, show inR i 0 ((s.length : Int) - 1) = false from decide_eq_false (by omega)]; rfl)
    rw [HR.out]
    obtain ⟨ad, c, ad', c', rfl⟩ := hu.shape
    clear hu hA hb
    generalize s.length = n at *
    generalize t.length = m at *
    cases b
    · go_enter Tryd.func22, Tryd.ntmps22
      go_wp2_with fail
      refine (HI.out _ (by repeat (first | with_reducible exact own_refl _ | with_reducible assumption | with_reducible apply own_alloc | with_reducible apply own_drewN | with_reducible apply own_drew | ((with_reducible refine own_setCell ?_ ?_ _); rotate_left; focus (first | (simp; done) | (simp; omega))) | (with_reducible (refine own_trans ?_ (by assumption)))))).mono ?_
      rintro e w2 ⟨rfl, hb2⟩
      have Bw2_0 : Box w2 (w.heap.size) [.slice ad n c, .slice ad' m c'] := by refine Box.below ?_ hb2; repeat (first | with_reducible assumption | with_reducible exact Box.new _ _ _ | (with_reducible refine Box.newAt ?_ _ _; (simp; done)) | with_reducible apply Box.alloc | with_reducible apply Box.drewN | with_reducible apply Box.drew)
      obtain ⟨_, _, _, _, _⟩ := Bw2_0.two
      have T2 : Below w.heap.size w w2 := by repeat (first | with_reducible exact own_refl _ | with_reducible assumption | with_reducible apply own_alloc | with_reducible apply own_drewN | with_reducible apply own_drew | ((with_reducible refine own_setCell ?_ ?_ _); rotate_left; focus (first | (simp; done) | (simp; omega))) | (with_reducible (refine own_trans ?_ (by assumption))))
      go_wp2_with fail
      refine (HN.out _).mono ?_
      rintro e w3 ⟨rfl, rfl⟩
      go_wp2
      go_ret
      exact ⟨rfl, T2⟩
    · go_enter Tryd.func22, Tryd.ntmps22
      go_wp2_with fail
      refine (HI.out _ (by repeat (first | with_reducible exact own_refl _ | with_reducible assumption | with_reducible apply own_alloc | with_reducible apply own_drewN | with_reducible apply own_drew | ((with_reducible refine own_setCell ?_ ?_ _); rotate_left; focus (first | (simp; done) | (simp; omega))) | (with_reducible (refine own_trans ?_ (by assumption)))))).mono ?_
      rintro e w2 ⟨rfl, hb2⟩
      have Bw2_0 : Box w2 (w.heap.size) [.slice ad n c, .slice ad' m c'] := by refine Box.below ?_ hb2; repeat (first | with_reducible assumption | with_reducible exact Box.new _ _ _ | (with_reducible refine Box.newAt ?_ _ _; (simp; done)) | with_reducible apply Box.alloc | with_reducible apply Box.drewN | with_reducible apply Box.drew)
      obtain ⟨_, _, _, _, _⟩ := Bw2_0.two
      have T2 : Below w.heap.size w w2 := by repeat (first | with_reducible exact own_refl _ | with_reducible assumption | with_reducible apply own_alloc | with_reducible apply own_drewN | with_reducible apply own_drew | ((with_reducible refine own_setCell ?_ ?_ _); rotate_left; focus (first | (simp; done) | (simp; omega))) | (with_reducible (refine own_trans ?_ (by assumption))))
      go_wp2_with fail
      refine (HN.out _).mono ?_
      rintro e w3 ⟨rfl, rfl⟩
      go_wp2
      go_ret
      exact ⟨rfl, T2⟩
end Go.Proofs.YtfchfakkbdfajaaDoor
