/- Fractions drawn, and spoilt: two numbers of int64. -/
import Derived.Test.YthggpcdbnopabaaDp7
import Derived.Test.YthggpcdbnopabaaLowE
namespace Go.Proofs.Ythggpcdbnopabaa
open Go.ChangeShapes Go.WideShapes Go.ChangeAt Go.RowKit

/-- What a drawn fraction leaves. -/
def DrF (b : Int) (g : Nat) (w : World) (e : Ending) (w' : World) : Prop := ∃ p q : Int, e = .returned (.agg #[.int .i64 p, .int .i64 q]) ∧ -b ≤ p ∧ p ≤ b ∧ -b ≤ q ∧ q ≤ b ∧ DR g w w' ∧ Src w' g
theorem tdiv_abs (x d : Int) : ((x.tdiv d).natAbs : Int) ≤ (x.natAbs : Int) := by
  have h1 : (x.tdiv d).natAbs = x.natAbs / d.natAbs := Int.natAbs_tdiv x d
  have h2 : x.natAbs / d.natAbs ≤ x.natAbs := Nat.div_le_self _ _
  omega
/-- a fraction in lowest terms out of small numbers -/
theorem red_small (p q b : Int) (h0 : ¬ (p = 0 ∧ q = 0)) (hb : b ≤ 4000000000000000000) (h1 : -b ≤ p) (h2 : p ≤ b) (h3 : -b ≤ q) (h4 : q ≤ b) (w : World) :
    Calls Try.prog 32 #[(.int .i64 p), (.int .i64 q)] w fun e w' => ∃ x y, e = .returned (.agg #[.int .i64 x, .int .i64 y]) ∧ -b ≤ x ∧ x ≤ b ∧ -b ≤ y ∧ y ≤ b ∧ Below w.heap.size w w' := by
  refine (specLow_any p q (by unfold Mid; omega) (by unfold Mid; omega) h0 w).mono ?_
  rintro e w' ⟨rfl, hb'⟩
  have h5 := tdiv_abs p (dv p q)
  have h6 := tdiv_abs q (dv p q)
  have e1 : lowP p q = p.tdiv (dv p q) := rfl
  have e2 : lowQ p q = q.tdiv (dv p q) := rfl
  exact ⟨lowP p q, lowQ p q, rfl, by omega, by omega, by omega, by omega, hb'⟩
set_option maxHeartbeats 4000000 in
theorem l01DrawFraction_any (g : Nat) (w : World) (h : Src w g) : Calls Try.prog 54 #[.pointer (some ⟨g, 0, none⟩)] w (DrF 1000000 g w) := by
  have HS := Lib.hid h
  have hg : g < w.heap.size := by obtain ⟨_, _, _, _, _, _, hB, _⟩ := h; exact hB.1
  have fin : ∀ (p q : Int) (wf wr : World), -1000000 ≤ p → p ≤ 1000000 → -1000000 ≤ q → q ≤ 1000000 → ¬ (p = 0 ∧ q = 0) → DR g w wf → Src wf g → Box wf w.heap.size [.int .i64 0, .int .i64 0] → wf = wr →
      Calls Try.prog 32 #[(.int .i64 p), (.int .i64 q)] wr fun e w' => ∃ x y, e = .returned (.agg #[.int .i64 x, .int .i64 y]) ∧ -1000000 ≤ x ∧ x ≤ 1000000 ∧ -1000000 ≤ y ∧ y ≤ 1000000 ∧ DR g w w' ∧ Src w' g ∧ Box w' w.heap.size [.int .i64 0, .int .i64 0] := fun p q wf wr a b c d h0 D S B e => by
    subst e
    refine (red_small p q 1000000 h0 (by omega) a b c d wf).mono ?_
    rintro e w' ⟨x, y, rfl, x1, x2, y1, y2, hb⟩
    exact ⟨x, y, rfl, x1, x2, y1, y2, D.trans (DR.below hb), S.below hb, B.below hb⟩
  have FIN := Lib.hid fin
  clear h fin
  go_enter Try.func54, Try.ntmps54
  go_wp2_with fail
  refine (l01Next_any 6 g _ (HS.out.alloc _)).mono ?_
  rintro e w1 ⟨x, rfl, x1, x2, D1, S1⟩
  have BZ := D1.box (by omega) (Box.new w [.int .i64 0, .int .i64 0] 27)
  have D1 := (DR.below (own_alloc (own_refl w) (.cells #[.int .i64 0, .int .i64 0] 27)) : DR g w _).trans D1
  have hz1 := BZ.1
  rcases (show x = 0 ∨ x = 1 ∨ (¬ x = 0 ∧ ¬ x = 1) by omega) with rfl | rfl | ⟨n0, n1⟩
  · have BL := Box.new w1 [.int .i64 1, .int .i64 0, .int .i64 1, .int .i64 (-1)] 2
    have Sa := S1.alloc (.cells #[.int .i64 1, .int .i64 0, .int .i64 1, .int .i64 (-1)] 2)
    have Za := BZ.alloc (.cells #[.int .i64 1, .int .i64 0, .int .i64 1, .int .i64 (-1)] 2)
    have Da := D1.trans (DR.below (own_alloc (own_refl w1) (.cells #[.int .i64 1, .int .i64 0, .int .i64 1, .int .i64 (-1)] 2)))
    go_wp2_with fail
    refine (l01Pick_any [1, 0, 1, -1] _ g _ Sa (by simp) (by simp) BL (by omega)).mono ?_
    rintro e w2 ⟨p, rfl, hp, D2, S2⟩
    have hpb : -1 ≤ p ∧ p ≤ 1 := by simp at hp; omega
    have BZ := D2.box (by omega) Za
    have D2 := Da.trans D2
    have hz2 := BZ.1
    clear BL Sa Za Da D1 S1
    have BL := Box.new w2 [.int .i64 0, .int .i64 1, .int .i64 1] 2
    have Sa := S2.alloc (.cells #[.int .i64 0, .int .i64 1, .int .i64 1] 2)
    have Za := BZ.alloc (.cells #[.int .i64 0, .int .i64 1, .int .i64 1] 2)
    have Da := D2.trans (DR.below (own_alloc (own_refl w2) (.cells #[.int .i64 0, .int .i64 1, .int .i64 1] 2)))
    go_wp2_with fail
    refine (l01Pick_any [0, 1, 1] _ g _ Sa (by simp) (by simp) BL (by omega)).mono ?_
    rintro e w3 ⟨q, rfl, hq, D3, S3⟩
    have hqb : 0 ≤ q ∧ q ≤ 1 := by simp at hq; omega
    have BZ := D3.box (by omega) Za
    have D3 := Da.trans D3
    clear BL Sa Za Da D2 S2
    by_cases hp0 : p = 0
    · subst hp0
      go_wp2_with fail
      refine (FIN.out 0 1 w3 _ (by omega) (by omega) (by omega) (by omega) (by omega) D3 S3 BZ rfl).mono ?_
      rintro e w4 ⟨x, y, rfl, x1, x2, y1, y2, D4, S4, B4⟩
      obtain ⟨_, _, _, _, _⟩ := B4.two
      go_wp2
      obtain ⟨_, q0, q1⟩ : _ ∧ _ ∧ _ := ⟨trivial, (B4.put2 (.int .i64 x) (.int .i64 y)).two.2.1, (B4.put2 (.int .i64 x) (.int .i64 y)).two.2.2.1⟩
      exact bodyPost_ret (v := (.agg #[.int .i64 x, .int .i64 y])) (by simp [results, Try.results54, go_sem, q0, q1]) rfl ⟨x, y, rfl, x1, x2, y1, y2, (D4.setNew (Nat.le_refl _) _).setNew (Nat.le_refl _) _, (S4.far hg).far hg⟩
    · have hb0 : (p == 0) = false := by simp [hp0]
      go_wp2_with fail
      refine (FIN.out p q w3 _ (by omega) (by omega) (by omega) (by omega) (by omega) D3 S3 BZ rfl).mono ?_
      rintro e w4 ⟨x, y, rfl, x1, x2, y1, y2, D4, S4, B4⟩
      obtain ⟨_, _, _, _, _⟩ := B4.two
      go_wp2
      obtain ⟨_, q0, q1⟩ : _ ∧ _ ∧ _ := ⟨trivial, (B4.put2 (.int .i64 x) (.int .i64 y)).two.2.1, (B4.put2 (.int .i64 x) (.int .i64 y)).two.2.2.1⟩
      exact bodyPost_ret (v := (.agg #[.int .i64 x, .int .i64 y])) (by simp [results, Try.results54, go_sem, q0, q1]) rfl ⟨x, y, rfl, x1, x2, y1, y2, (D4.setNew (Nat.le_refl _) _).setNew (Nat.le_refl _) _, (S4.far hg).far hg⟩
  · go_wp2_with fail
    refine (l01Next_any 2000000 g _ S1).mono ?_
    rintro e w2 ⟨p, rfl, p1, p2, D2, S2⟩
    have BZ := D2.box (by omega) BZ
    have D2 := D1.trans D2
    go_wp2_with fail
    refine (l01Next_any 1000000 g _ S2).mono ?_
    rintro e w3 ⟨q, rfl, q1, q2, D3, S3⟩
    have hz2 := BZ.1
    have BZ := D3.box (by omega) BZ
    have D3 := D2.trans D3
    go_wp2_with fail
    refine (FIN.out (p - 1000000) (1 + q) w3 _ (by omega) (by omega) (by omega) (by omega) (by omega) D3 S3 BZ rfl).mono ?_
    rintro e w4 ⟨x, y, rfl, x1, x2, y1, y2, D4, S4, B4⟩
    obtain ⟨_, _, _, _, _⟩ := B4.two
    go_wp2
    obtain ⟨_, q0, q1⟩ : _ ∧ _ ∧ _ := ⟨trivial, (B4.put2 (.int .i64 x) (.int .i64 y)).two.2.1, (B4.put2 (.int .i64 x) (.int .i64 y)).two.2.2.1⟩
    exact bodyPost_ret (v := (.agg #[.int .i64 x, .int .i64 y])) (by simp [results, Try.results54, go_sem, q0, q1]) rfl ⟨x, y, rfl, x1, x2, y1, y2, (D4.setNew (Nat.le_refl _) _).setNew (Nat.le_refl _) _, (S4.far hg).far hg⟩
  · have b0 : (x == 0) = false := by simp [n0]
    have b1 : (x == 1) = false := by simp [n1]
    go_wp2_with fail
    refine (l01Next_any 41 g _ S1).mono ?_
    rintro e w2 ⟨p, rfl, p1, p2, D2, S2⟩
    have BZ := D2.box (by omega) BZ
    have D2 := D1.trans D2
    go_wp2_with fail
    refine (l01Next_any 20 g _ S2).mono ?_
    rintro e w3 ⟨q, rfl, q1, q2, D3, S3⟩
    have hz2 := BZ.1
    have BZ := D3.box (by omega) BZ
    have D3 := D2.trans D3
    go_wp2_with fail
    refine (FIN.out (p - 20) (1 + q) w3 _ (by omega) (by omega) (by omega) (by omega) (by omega) D3 S3 BZ rfl).mono ?_
    rintro e w4 ⟨x, y, rfl, x1, x2, y1, y2, D4, S4, B4⟩
    obtain ⟨_, _, _, _, _⟩ := B4.two
    go_wp2
    obtain ⟨_, q0, q1⟩ : _ ∧ _ ∧ _ := ⟨trivial, (B4.put2 (.int .i64 x) (.int .i64 y)).two.2.1, (B4.put2 (.int .i64 x) (.int .i64 y)).two.2.2.1⟩
    exact bodyPost_ret (v := (.agg #[.int .i64 x, .int .i64 y])) (by simp [results, Try.results54, go_sem, q0, q1]) rfl ⟨x, y, rfl, x1, x2, y1, y2, (D4.setNew (Nat.le_refl _) _).setNew (Nat.le_refl _) _, (S4.far hg).far hg⟩
set_option maxHeartbeats 4000000 in
theorem l01BadFraction_any (a b : Int) (ha : -1000000 ≤ a ∧ a ≤ 1000000) (hb : -1000000 ≤ b ∧ b ≤ 1000000) (g : Nat) (w : World) (h : Src w g) : Calls Try.prog 53 #[.pointer (some ⟨g, 0, none⟩), (.agg #[.int .i64 a, .int .i64 b])] w (DrF 2000000000 g w) := by
  have HS := Lib.hid h
  have hg : g < w.heap.size := by obtain ⟨_, _, _, _, _, _, hB, _⟩ := h; exact hB.1
  obtain ⟨_, _⟩ := ha
  obtain ⟨_, _⟩ := hb
  have l0 : w.heap.size ≤ w.heap.size + 1 := by omega
  have g1 : g < w.heap.size + 1 := by omega
  clear h
  go_enter Try.func53, Try.ntmps53
  go_wp2_with fail
  refine (l01Next_any 40 g _ ((HS.out.alloc _).alloc _)).mono ?_
  rintro e w1 ⟨x, rfl, x1, x2, D1, S1⟩
  have BF := D1.box (by omega) (Box.alloc (Box.new w [.int .i64 a, .int .i64 b] 27) (.cells #[.int .i64 0, .int .i64 0] 27))
  have BZ := D1.box (by omega) (Box.newAt (g := w.heap.size + 1) (by simp) [.int .i64 0, .int .i64 0] 27 : Box ((w.alloc (.cells #[.int .i64 a, .int .i64 b] 27)).alloc (.cells #[.int .i64 0, .int .i64 0] 27)) (w.heap.size + 1) [.int .i64 0, .int .i64 0])
  have D1 := (DR.below (own_alloc (own_alloc (own_refl w) (.cells #[.int .i64 a, .int .i64 b] 27)) (.cells #[.int .i64 0, .int .i64 0] 27)) : DR g w _).trans D1
  have hz1 := BZ.1
  obtain ⟨_, _, _, _, _⟩ := BF.two
  obtain ⟨_, _, _, _, _⟩ := BZ.two
  rcases (show x = 0 ∨ x = 1 ∨ x = 2 ∨ (¬ x = 0 ∧ ¬ x = 1 ∧ ¬ x = 2) by omega) with rfl | rfl | rfl | ⟨n0, n1, n2⟩
  · go_wp2
    obtain ⟨q0, q1⟩ : _ ∧ _ := ⟨(BZ.put2 (.int .i64 (2 * a)) (.int .i64 (2 * b))).two.2.1, (BZ.put2 (.int .i64 (2 * a)) (.int .i64 (2 * b))).two.2.2.1⟩
    exact bodyPost_ret (v := (.agg #[.int .i64 (2 * a), .int .i64 (2 * b)])) (by simp [results, Try.results53, go_sem, q0, q1]) rfl ⟨2 * a, 2 * b, rfl, by omega, by omega, by omega, by omega, (D1.setNew l0 _).setNew l0 _, (S1.far g1).far g1⟩
  · have BL : Box (w1.alloc (.cells #[.int .i64 (-1), .int .i64 0, .int .i64 1000000001] 2)).drew w1.heap.size [.int .i64 (-1), .int .i64 0, .int .i64 1000000001] := Box.drew (Box.new _ _ _)
    have Sa : Src (w1.alloc (.cells #[.int .i64 (-1), .int .i64 0, .int .i64 1000000001] 2)).drew g := S1.alloc _
    have Fa : Box (w1.alloc (.cells #[.int .i64 (-1), .int .i64 0, .int .i64 1000000001] 2)).drew w.heap.size [.int .i64 a, .int .i64 b] := Box.drew (BF.alloc _)
    have Za : Box (w1.alloc (.cells #[.int .i64 (-1), .int .i64 0, .int .i64 1000000001] 2)).drew (w.heap.size + 1) [.int .i64 0, .int .i64 0] := Box.drew (BZ.alloc _)
    have Da : DR g w (w1.alloc (.cells #[.int .i64 (-1), .int .i64 0, .int .i64 1000000001] 2)).drew := (D1.trans (DR.below (own_alloc (own_refl w1) (.cells #[.int .i64 (-1), .int .i64 0, .int .i64 1000000001] 2)))).drew
    have hlb : w1.heap.size ≠ g := by omega
    go_upto_region 5 with fail
    go_region_held3 (fun w' => w'.cell? ⟨w.heap.size, 0, none⟩ = some (.int .i64 a)) (go_keep)
      (first
        | (go_at_call 50
           refine (l01Pick_any [-1, 0, 1000000001] w1.heap.size g _ Sa (by simp) (by simp) BL hlb).mono ?_
           rintro e w2 ⟨q, rfl, hq, D2, S2⟩
           have hqb : -1 ≤ q ∧ q ≤ 1000000001 := by simp at hq; omega
           have D3 := Da.trans D2
           have BF := D2.box (by omega) Fa
           have BZ := D2.box (by omega) Za
           obtain ⟨_, _, _, _, _⟩ := BF.two
           obtain ⟨_, _, _, _, _⟩ := BZ.two))
    all_goals
      go_wp2
      obtain ⟨q0, q1⟩ : _ ∧ _ := ⟨(BZ.put2 (.int .i64 a) (.int .i64 q)).two.2.1, (BZ.put2 (.int .i64 a) (.int .i64 q)).two.2.2.1⟩
      exact bodyPost_ret (v := (.agg #[.int .i64 a, .int .i64 q])) (by simp [results, Try.results53, go_sem, q0, q1]) rfl ⟨a, q, rfl, by omega, by omega, by omega, by omega, (D3.setNew l0 _).setNew l0 _, (S2.far g1).far g1⟩
  · have BL := Box.new w1 [.int .i64 0, .int .i64 (-1)] 2
    have Sa := S1.alloc (.cells #[.int .i64 0, .int .i64 (-1)] 2)
    have Za := BZ.alloc (.cells #[.int .i64 0, .int .i64 (-1)] 2)
    have Da := D1.trans (DR.below (own_alloc (own_refl w1) (.cells #[.int .i64 0, .int .i64 (-1)] 2)))
    go_wp2_with fail
    refine (l01Pick_any [0, -1] _ g _ Sa (by simp) (by simp) BL (by omega)).mono ?_
    rintro e w2 ⟨p, rfl, hp, D2, S2⟩
    have hpb : -1 ≤ p ∧ p ≤ 0 := by simp at hp; omega
    have BZ := D2.box (by omega) Za
    have D2 := Da.trans D2
    obtain ⟨_, _, _, _, _⟩ := BZ.two
    go_wp2
    obtain ⟨q0, q1⟩ : _ ∧ _ := ⟨(BZ.put2 (.int .i64 p) (.int .i64 0)).two.2.1, (BZ.put2 (.int .i64 p) (.int .i64 0)).two.2.2.1⟩
    exact bodyPost_ret (v := (.agg #[.int .i64 p, .int .i64 0])) (by simp [results, Try.results53, go_sem, q0, q1]) rfl ⟨p, 0, rfl, by omega, by omega, by omega, by omega, (D2.setNew l0 _).setNew l0 _, (S2.far g1).far g1⟩
  · have b0 : (x == 0) = false := by simp [n0]
    have b1 : (x == 1) = false := by simp [n1]
    have b2 : (x == 2) = false := by simp [n2]
    go_wp2
    obtain ⟨q0, q1⟩ : _ ∧ _ := ⟨(BZ.put2 (.int .i64 a) (.int .i64 b)).two.2.1, (BZ.put2 (.int .i64 a) (.int .i64 b)).two.2.2.1⟩
    exact bodyPost_ret (v := (.agg #[.int .i64 a, .int .i64 b])) (by simp [results, Try.results53, go_sem, q0, q1]) rfl ⟨a, b, rfl, by omega, by omega, by omega, by omega, (D1.setNew l0 _).setNew l0 _, (S1.far g1).far g1⟩
end Go.Proofs.Ythggpcdbnopabaa
