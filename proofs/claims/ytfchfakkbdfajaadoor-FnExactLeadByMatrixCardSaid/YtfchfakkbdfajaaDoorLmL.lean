/- LeadByMatrix: both sides' answers, and the law's walk. -/
import Derived.Test.YtfchfakkbdfajaaDoorLmS
import Derived.Test.YtfchfakkbdfajaaDoorB
namespace Go.Proofs.YtfchfakkbdfajaaDoor
open Go.ChangeShapes Go.WideShapes Go.ChangeAt Go.RowKit

def lmC (s t : List Int) (a b c d i : Int) : Int := if isM a b c d then ptCode s t i else 1
def lmV (s t : List Int) (a b c d i : Int) : Int := if lmC s t a b c d i = 0 then ((ldM s t s.length (chL c.natAbs a b c d) i.toNat : Nat) : Int) else 0
def RetLM (v k : Int) (w : World) (e : Ending) (w' : World) : Prop := e = .returned (.tuple #[(.int .i64 v), (.int .i64 k)]) ∧ Below w.heap.size w w'
theorem pt_zero {s t : List Int} {i : Int} (h : ptCode s t i = 0) : isA s t = true ∧ 0 ≤ i ∧ i < (s.length : Int) := by
  rcases hA : isA s t with _ | _
  · simp [ptCode, hA] at h
  · refine ⟨rfl, ?_⟩
    simp only [ptCode, hA, if_true] at h
    by_cases hr : 0 ≤ i ∧ i < (s.length : Int)
    · exact hr
    · rw [if_neg hr] at h; omega
set_option maxHeartbeats 4000000 in
theorem LMi_is (s t : List Int) (hsl : s.length ≤ 9223372036854775807) (a b c d i : Int) (u : Value) (w : World) (hu : Ac w u s t) (hid : MxS w) :
    Calls Tryd.prog 18 #[u, (.agg #[.int .i64 a, .int .i64 b, .int .i64 c, .int .i64 d]), (.int .i64 i)] w (RetLM (lmV s t a b c d i) (lmC s t a b c d i) w) := by
  rcases hM : isM a b c d with _ | _
  · have e1 : lmC s t a b c d i = 1 := by simp [lmC, hM]
    have e2 : lmV s t a b c d i = 0 := by simp [lmV, e1]
    rw [e1, e2]
    have HC := Lib.hid (implChain_no a b c d hM)
    obtain ⟨ad, k1, ad', k2, rfl⟩ := hu.shape
    clear hu hid hM e1 e2
    generalize s.length = n at *
    generalize t.length = m at *
    go_enter Tryd.func18, Tryd.ntmps18
    go_wp2_with fail
    refine (HC.out _).mono ?_
    rintro e w2 ⟨v, rfl, _, hb2⟩
    have T2 : Below w.heap.size w w2 := by repeat (first | with_reducible exact own_refl _ | with_reducible assumption | with_reducible apply own_alloc | with_reducible apply own_drewN | with_reducible apply own_drew | ((with_reducible refine own_setCell ?_ ?_ _); rotate_left; focus (first | (simp; done) | (simp; omega))) | (with_reducible (refine own_trans ?_ (by assumption))))
    go_wp2
    go_ret2
    exact ⟨rfl, T2⟩
  · by_cases hp : ptCode s t i = 0
    · obtain ⟨hA, h0, h1⟩ := pt_zero hp
      obtain ⟨j, rfl⟩ : ∃ j : Nat, i = j := ⟨i.toNat, by omega⟩
      have e1 : lmC s t a b c d (j : Int) = 0 := by simp [lmC, hM, hp]
      have e2 : lmV s t a b c d (j : Int) = ((ldM s t s.length (chL c.natAbs a b c d) j : Nat) : Int) := by simp [lmV, e1]
      rw [e1, e2]
      exact implLM_yes s t (isA_is hA) hA hsl a b c d hM j (by omega) u w hu hid
    · have e1 : lmC s t a b c d i = ptCode s t i := by simp [lmC, hM]
      have e2 : lmV s t a b c d i = 0 := by rw [lmV, e1, if_neg hp]
      rw [e1, e2]
      have hent := isM_ent hM
      have HCh := Lib.hid (fun w' (hb : Below w.heap.size w w') => implChain_gr c.natAbs a b c d hM (Nat.le_refl _) (by obtain ⟨_, _, hc, _⟩ := hent; unfold Ent at hc; omega) w' (Rd.below hid hb))
      have HI := Lib.hid (isA_at u s t hsl w hu)
      have HP := Lib.hid (fun b hb w' (h : Below w.heap.size w w') => hasP_is u s t s.length rfl i b hb w' (hu.below h))
      generalize chL c.natAbs a b c d = xs at *
      generalize chS c.natAbs a b c d = sg at *
      rcases hA : isA s t with _ | _
      · rw [show ptCode s t i = 1 by simp [ptCode, hA]]
        rw [hA] at HI
        obtain ⟨ad, k1, ad', k2, rfl⟩ := hu.shape
        clear hu hid hM e1 e2 hp hA hent HP
        generalize s.length = n at *
        generalize t.length = m at *
        have B0 : Box ((w.alloc (.cells #[.slice ad n k1, .slice ad' m k2] 28)).alloc (.cells #[.int .i64 a, .int .i64 b, .int .i64 c, .int .i64 d] 38)) w.heap.size [.slice ad n k1, .slice ad' m k2] := (Box.new _ _ _).alloc _
        have T0 := own_alloc (own_alloc (own_refl w) (.cells #[.slice ad n k1, .slice ad' m k2] 28)) (.cells #[.int .i64 a, .int .i64 b, .int .i64 c, .int .i64 d] 38)
        go_enter Tryd.func18, Tryd.ntmps18
        go_wp2_with fail
        refine (HCh.out _ T0).mono ?_
        rintro e w2 ⟨v, rfl, _, hb2⟩
        have T2 := own_trans T0 hb2
        obtain ⟨-, b0, b1, -, -⟩ := (B0.below hb2).two
        go_wp2_with fail
        refine (HI.out _ T2).mono ?_
        rintro e w3 ⟨rfl, hb3⟩
        go_wp2
        go_ret2
        exact ⟨rfl, own_trans T2 hb3⟩
      · have hr : ¬ (0 ≤ i ∧ i < (s.length : Int)) := fun hr => hp (by simp only [ptCode, hA, if_true]; rw [if_pos hr])
        rw [show ptCode s t i = 2 by simp only [ptCode, hA, if_true]; rw [if_neg hr]]
        have HP := Lib.hid (HP.out false (decide_eq_false hr))
        rw [hA] at HI
        obtain ⟨ad, k1, ad', k2, rfl⟩ := hu.shape
        clear hu hid hM e1 e2 hp hA hent hr
        generalize s.length = n at *
        generalize t.length = m at *
        have B0 : Box ((w.alloc (.cells #[.slice ad n k1, .slice ad' m k2] 28)).alloc (.cells #[.int .i64 a, .int .i64 b, .int .i64 c, .int .i64 d] 38)) w.heap.size [.slice ad n k1, .slice ad' m k2] := (Box.new _ _ _).alloc _
        have T0 := own_alloc (own_alloc (own_refl w) (.cells #[.slice ad n k1, .slice ad' m k2] 28)) (.cells #[.int .i64 a, .int .i64 b, .int .i64 c, .int .i64 d] 38)
        go_enter Tryd.func18, Tryd.ntmps18
        go_wp2_with fail
        refine (HCh.out _ T0).mono ?_
        rintro e w2 ⟨v, rfl, _, hb2⟩
        have T2 := own_trans T0 hb2
        have B2 := B0.below hb2
        obtain ⟨-, b0, b1, -, -⟩ := B2.two
        go_wp2_with fail
        refine (HI.out _ T2).mono ?_
        rintro e w3 ⟨rfl, hb3⟩
        have T3 := own_trans T2 hb3
        obtain ⟨-, c0, c1, -, -⟩ := (B2.below hb3).two
        go_wp2_with fail
        refine (HP.out _ T3).mono ?_
        rintro e w4 ⟨rfl, hb4⟩
        go_wp2
        go_ret2
        exact ⟨rfl, own_trans T3 hb4⟩
set_option maxHeartbeats 4000000 in
theorem LMs_is (s t : List Int) (hsl : s.length ≤ 9223372036854775807) (a b c d i : Int) (u : Value) (w : World) (hu : Ac w u s t) :
    Calls Tryd.prog 16 #[u, (.agg #[.int .i64 a, .int .i64 b, .int .i64 c, .int .i64 d]), (.int .i64 i)] w (RetLM (lmV s t a b c d i) (lmC s t a b c d i) w) := by
  rcases hM : isM a b c d with _ | _
  · have e1 : lmC s t a b c d i = 1 := by simp [lmC, hM]
    have e2 : lmV s t a b c d i = 0 := by simp [lmV, e1]
    rw [e1, e2]
    have HC := Lib.hid (fun w => l01Is_is false a b c d w hM)
    obtain ⟨ad, k1, ad', k2, rfl⟩ := hu.shape
    clear hu hM e1 e2
    generalize s.length = n at *
    generalize t.length = m at *
    go_enter Tryd.func16, Tryd.ntmps16
    go_wp2_with fail
    refine (HC.out _).mono ?_
    rintro e w2 ⟨rfl, hb2⟩
    have T2 : Below w.heap.size w w2 := by repeat (first | with_reducible exact own_refl _ | with_reducible assumption | with_reducible apply own_alloc | with_reducible apply own_drewN | with_reducible apply own_drew | ((with_reducible refine own_setCell ?_ ?_ _); rotate_left; focus (first | (simp; done) | (simp; omega))) | (with_reducible (refine own_trans ?_ (by assumption))))
    go_wp2
    go_ret2
    exact ⟨rfl, T2⟩
  · have HC := Lib.hid (fun w => l01Is_is true a b c d w hM)
    have HK := Lib.hid (fun w' (h : Below w.heap.size w w') => l10Code_is u s t hsl i w' (hu.below h))
    by_cases hp : ptCode s t i = 0
    · obtain ⟨hA, h0, h1⟩ := pt_zero hp
      have ia := isA_is hA
      obtain ⟨j, rfl⟩ : ∃ j : Nat, i = j := ⟨i.toNat, by omega⟩
      have e1 : lmC s t a b c d (j : Int) = 0 := by simp [lmC, hM, hp]
      have e2 : lmV s t a b c d (j : Int) = ((ldM s t s.length (chL c.natAbs a b c d) j : Nat) : Int) := by simp [lmV, e1]
      rw [hp] at HK
      rw [e1, e2]
      have HL := Lib.hid (fun w' (h : Below w.heap.size w w') => show Calls Tryd.prog 43 #[u, (.agg #[.int .i64 a, .int .i64 b, .int .i64 c, .int .i64 d]), (.int .i64 ((j : Int)))] w' (fun e w'' => e = .returned (.int .i64 (((ldM s t s.length (chL c.natAbs a b c d) j : Nat) : Int))) ∧ Below w'.heap.size w' w'') from by
        obtain ⟨x, y, rfl, hx, hy⟩ := hu.below h
        exact l10Lead_is s t s.length (by have := ia.n72; omega) ia.pS ia.pT a b c d hM j (by omega) x y w' hx hy)
      generalize ldM s t s.length (chL c.natAbs a b c d) j = res at *
      obtain ⟨ad, k1, ad', k2, rfl⟩ := hu.shape
      clear hu hM e1 e2 hp hA ia h0 h1
      generalize s.length = n at *
      generalize t.length = m at *
      have B0 : Box ((w.alloc (.cells #[.slice ad n k1, .slice ad' m k2] 28)).alloc (.cells #[.int .i64 a, .int .i64 b, .int .i64 c, .int .i64 d] 38)) w.heap.size [.slice ad n k1, .slice ad' m k2] := (Box.new _ _ _).alloc _
      have C0 : Box ((w.alloc (.cells #[.slice ad n k1, .slice ad' m k2] 28)).alloc (.cells #[.int .i64 a, .int .i64 b, .int .i64 c, .int .i64 d] 38)) (w.heap.size + 1) [.int .i64 a, .int .i64 b, .int .i64 c, .int .i64 d] := Box.newAt (by simp) _ _
      have T0 := own_alloc (own_alloc (own_refl w) (.cells #[.slice ad n k1, .slice ad' m k2] 28)) (.cells #[.int .i64 a, .int .i64 b, .int .i64 c, .int .i64 d] 38)
      go_enter Tryd.func16, Tryd.ntmps16
      go_wp2_with fail
      refine (HC.out _).mono ?_
      rintro e w2 ⟨rfl, hb2⟩
      have T2 := own_trans T0 hb2
      have B2 := B0.below hb2
      have C2 := C0.below hb2
      obtain ⟨-, b0, b1, -, -⟩ := B2.two
      go_wp2_with fail
      refine (HK.out _ T2).mono ?_
      rintro e w3 ⟨rfl, hb3⟩
      have T3 := own_trans T2 hb3
      obtain ⟨-, c0, c1, -, -⟩ := (B2.below hb3).two
      obtain ⟨-, d0, d1, d2, d3, -, -, -, -⟩ := (C2.below hb3).four
      go_wp2_with fail
      refine (HL.out _ T3).mono ?_
      rintro e w4 ⟨rfl, hb4⟩
      go_wp2
      go_ret2
      exact ⟨rfl, own_trans T3 hb4⟩
    · have e1 : lmC s t a b c d i = ptCode s t i := by simp [lmC, hM]
      have e2 : lmV s t a b c d i = 0 := by rw [lmV, e1, if_neg hp]
      rw [e1, e2]
      generalize ptCode s t i = kc at *
      obtain ⟨ad, k1, ad', k2, rfl⟩ := hu.shape
      clear hu hM e1 e2
      generalize s.length = n at *
      generalize t.length = m at *
      have B0 : Box ((w.alloc (.cells #[.slice ad n k1, .slice ad' m k2] 28)).alloc (.cells #[.int .i64 a, .int .i64 b, .int .i64 c, .int .i64 d] 38)) w.heap.size [.slice ad n k1, .slice ad' m k2] := (Box.new _ _ _).alloc _
      have T0 := own_alloc (own_alloc (own_refl w) (.cells #[.slice ad n k1, .slice ad' m k2] 28)) (.cells #[.int .i64 a, .int .i64 b, .int .i64 c, .int .i64 d] 38)
      go_enter Tryd.func16, Tryd.ntmps16
      go_wp2_with fail
      refine (HC.out _).mono ?_
      rintro e w2 ⟨rfl, hb2⟩
      have T2 := own_trans T0 hb2
      obtain ⟨-, b0, b1, -, -⟩ := (B0.below hb2).two
      go_wp2_with fail
      refine (HK.out _ T2).mono ?_
      rintro e w3 ⟨rfl, hb3⟩
      go_wp2
      go_ret2
      exact ⟨rfl, own_trans T2 hb3⟩
end Go.Proofs.YtfchfakkbdfajaaDoor
