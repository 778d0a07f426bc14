/- slices.Reverse over a slice of triples. -/
import Derived.Test.YtafmfdhogoheaaaDoorPtM
import Derived.Test.YtafmfdhogoheaaaDoorGrH
namespace Go.Proofs.YtafmfdhogoheaaaDoor
open Go.ChangeShapes Go.WideShapes Go.ChangeAt Go.RowKit

/-- the block g holds the triples f 0 .. f (n - 1), none frozen -/
def RowT (w : World) (g n : Nat) (f : Nat → Trp) : Prop := g < w.heap.size ∧ ∀ k, k < n →
  (w.cell? ⟨g, k * 3, none⟩ = some (.int .i64 ((f k).x)) ∧ w.cell? ⟨g, k * 3 + 1, none⟩ = some (.int .i64 ((f k).y)) ∧ w.cell? ⟨g, k * 3 + 2, none⟩ = some (.int .i64 ((f k).z))) ∧
  (w.frozen? ⟨g, k * 3, none⟩ = false ∧ w.frozen? ⟨g, k * 3 + 1, none⟩ = false ∧ w.frozen? ⟨g, k * 3 + 2, none⟩ = false)
theorem RowT.drew {w : World} {g n : Nat} {f : Nat → Trp} (h : RowT w g n f) : RowT w.drew g n f := h
theorem RowT.low {w w' : World} {g n L : Nat} {f : Nat → Trp} (h : RowT w g n f) (hb : Below L w w') (hg : g < L) : RowT w' g n f := by
  refine ⟨Nat.lt_of_lt_of_le h.1 hb.size, fun k hk => ?_⟩
  have e := h.2 k hk
  refine ⟨⟨?_, ?_, ?_⟩, ⟨?_, ?_, ?_⟩⟩
  · exact (hb.cell (p := ⟨g, k * 3, none⟩) hg).trans e.1.1
  · exact (hb.cell (p := ⟨g, k * 3 + 1, none⟩) hg).trans e.1.2.1
  · exact (hb.cell (p := ⟨g, k * 3 + 2, none⟩) hg).trans e.1.2.2
  · exact (hb.frozen (p := ⟨g, k * 3, none⟩) hg).trans e.2.1
  · exact (hb.frozen (p := ⟨g, k * 3 + 1, none⟩) hg).trans e.2.2.1
  · exact (hb.frozen (p := ⟨g, k * 3 + 2, none⟩) hg).trans e.2.2.2
theorem RowT.below {w w' : World} {g n : Nat} {f : Nat → Trp} (h : RowT w g n f) (hb : Below w.heap.size w w') : RowT w' g n f := h.low hb h.1
theorem RowT.congr {w : World} {g n : Nat} {f f' : Nat → Trp} (h : RowT w g n f) (e : ∀ k, k < n → f k = f' k) : RowT w g n f' :=
  ⟨h.1, fun k hk => e k hk ▸ h.2 k hk⟩
theorem RowT.put {w : World} {g n : Nat} {f : Nat → Trp} (h : RowT w g n f) (i : Nat) (hi : i < n) (t : Trp) :
    RowT (((w.setCell ⟨g, i * 3, none⟩ (.int .i64 t.x)).setCell ⟨g, i * 3 + 1, none⟩ (.int .i64 t.y)).setCell ⟨g, i * 3 + 2, none⟩ (.int .i64 t.z)) g n (fun k => if k = i then t else f k) := by
  refine ⟨by simpa [World.setCell] using h.1, fun k hk => ⟨?_, ?_⟩⟩
  · have e := (h.2 k hk).1
    have ei := (h.2 i hi).1
    by_cases hki : k = i
    · subst hki
      simp only [if_true]
      refine ⟨?_, ?_, ?_⟩
      · rw [World.cell?_setCell_other _ _ _ _ (by simp), World.cell?_setCell_other _ _ _ _ (by simp)]
        exact World.cell?_setCell_same _ _ _ ei.1
      · rw [World.cell?_setCell_other _ _ _ _ (by simp)]
        exact World.cell?_setCell_same _ _ _ (by rw [World.cell?_setCell_other _ _ _ _ (by simp)]; exact ei.2.1)
      · exact World.cell?_setCell_same _ _ _ (by rw [World.cell?_setCell_other _ _ _ _ (by simp), World.cell?_setCell_other _ _ _ _ (by simp)]; exact ei.2.2)
    · simp only [if_neg hki]
      refine ⟨?_, ?_, ?_⟩
      · rw [World.cell?_setCell_other _ _ _ _ (by first | (simp; done) | (simp; omega)), World.cell?_setCell_other _ _ _ _ (by first | (simp; done) | (simp; omega)), World.cell?_setCell_other _ _ _ _ (by first | (simp; done) | (simp; omega))]
        exact e.1
      · rw [World.cell?_setCell_other _ _ _ _ (by first | (simp; done) | (simp; omega)), World.cell?_setCell_other _ _ _ _ (by first | (simp; done) | (simp; omega)), World.cell?_setCell_other _ _ _ _ (by first | (simp; done) | (simp; omega))]
        exact e.2.1
      · rw [World.cell?_setCell_other _ _ _ _ (by first | (simp; done) | (simp; omega)), World.cell?_setCell_other _ _ _ _ (by first | (simp; done) | (simp; omega)), World.cell?_setCell_other _ _ _ _ (by first | (simp; done) | (simp; omega))]
        exact e.2.2
  · have e := (h.2 k hk).2
    simp only [World.frozen?_setCell]
    exact e
theorem below_drewL {L : Nat} {w w' : World} (h : Below L w w') : Below L w w'.drew := ⟨h.os, h.tape, h.output, h.size, h.block⟩
/-- turned as far as place i -/
def revF (f : Nat → Trp) (n i : Nat) (k : Nat) : Trp := if k < i ∨ n - 1 - i < k then f (n - 1 - k) else f k
theorem revF_zero (f : Nat → Trp) (n k : Nat) (hk : k < n) : f k = revF f n 0 k := by
  unfold revF
  rw [if_neg (by omega)]
theorem revF_step (f : Nat → Trp) (n i k : Nat) (hi : i < n - 1 - i) (hk : k < n) :
    (if k = n - 1 - i then revF f n i i else if k = i then revF f n i (n - 1 - i) else revF f n i k) = revF f n (i + 1) k := by
  unfold revF
  by_cases h1 : k = n - 1 - i
  · subst h1
    rw [if_pos rfl, if_neg (by omega), if_pos (by omega), show n - 1 - (n - 1 - i) = i by omega]
  · rw [if_neg h1]
    by_cases h2 : k = i
    · subst h2
      rw [if_pos rfl, if_neg (by omega), if_pos (by omega)]
    · rw [if_neg h2]
      by_cases h3 : k < i ∨ n - 1 - i < k
      · rw [if_pos h3, if_pos (by omega)]
      · rw [if_neg h3, if_neg (by omega)]
theorem revF_end (f : Nat → Trp) (n i k : Nat) (hi : ¬ i < n - 1 - i) (hk : k < n) (h2 : 2 * i ≤ n) : revF f n i k = f (n - 1 - k) := by
  unfold revF
  split
  · rfl
  · rw [show n - 1 - k = k by omega]
set_option maxHeartbeats 4000000 in
theorem reverse_any (g cap n : Nat) (f : Nat → Trp) (hn : n ≤ 1000000000) (h1 : 1 ≤ n) (w : World) (h : RowT w g n f) :
    Calls Tryd.prog 66 #[.slice (some ⟨g, 0, none⟩) n cap] w fun e w' => e = .returned (.tuple #[]) ∧ RowT w' g n (fun k => f (n - 1 - k)) ∧ Below g w w' ∧ w.heap.size = w'.heap.size ∧ (∀ b xs, b ≠ g → Box w b xs → Box w' b xs) := by
  go_enter Tryd.func66, Tryd.ntmps66
  go_wp2
  go_loopw [2, 3] (fun s2 s3 wr => ∃ (i : Nat) (j : Int), s2 = (.int .i64 i) ∧ s3 = (.int .i64 j) ∧ Hid (j = (n : Int) - 1 - i ∧ 2 * i ≤ n ∧ RowT wr g n (revF f n i) ∧ Below g w wr ∧ w.heap.size = wr.heap.size ∧ (∀ b xs, b ≠ g → Box w b xs → Box wr b xs))) (fun s2 _ _ => n - (intOf s2).toNat)
  case atStart => exact ⟨0, _, rfl, rfl, Lib.hid ⟨by omega, by omega, h.congr (fun k hk => revF_zero f n k hk), Below.refl _ _, rfl, fun _ _ _ hb => hb⟩⟩
  case round =>
    obtain ⟨i, j, rfl, rfl, HR⟩ := hrel
    by_cases hlt : (i : Int) < j
    · obtain ⟨J, rfl⟩ : ∃ J : Nat, j = (J : Int) := ⟨j.toNat, by omega⟩
      have HJ : Hid (J = n - 1 - i ∧ i < J ∧ J < n) := Lib.hid (by have := HR.out.1; omega)
      have hn1 : i < n := by have := HJ.out; omega
      have hn2 : J < n := HJ.out.2.2
      have HP : Hid (RowT wr g n (revF f n i)) := Lib.hid HR.out.2.2.1
      obtain ⟨⟨a0, a1, a2⟩, ⟨b0, b1, b2⟩⟩ := HP.out.2 i hn1
      obtain ⟨⟨c0, c1, c2⟩, ⟨d0, d1, d2⟩⟩ := HP.out.2 J hn2
      obtain ⟨A, hA⟩ : ∃ A, revF f n i i = A := ⟨_, rfl⟩
      obtain ⟨B, hB⟩ : ∃ B, revF f n i J = B := ⟨_, rfl⟩
      rw [hA] at a0 a1 a2
      rw [hB] at c0 c1 c2
      have HA := Lib.hid hA
      have HB := Lib.hid hB
      have ne1 : ¬ J * 3 = i * 3 := by have := HJ.out; omega
      have ne2 : ¬ i * 3 = J * 3 := by have := HJ.out; omega
      clear hA hB
      go_wp2_with fail
      go_region
      have HN : Hid (∀ W, W = ((((((wr.setCell ⟨g, i * 3, none⟩ (.int .i64 B.x)).setCell ⟨g, i * 3 + 1, none⟩ (.int .i64 B.y)).setCell ⟨g, i * 3 + 2, none⟩ (.int .i64 B.z)).setCell ⟨g, J * 3, none⟩ (.int .i64 A.x)).setCell ⟨g, J * 3 + 1, none⟩ (.int .i64 A.y)).setCell ⟨g, J * 3 + 2, none⟩ (.int .i64 A.z)).drew →
          ((J : Int) - 1 = (n : Int) - 1 - ((i + 1 : Nat) : Int) ∧ 2 * (i + 1) ≤ n ∧ RowT W g n (revF f n (i + 1)) ∧ Below g w W ∧ w.heap.size = W.heap.size ∧ (∀ b xs, b ≠ g → Box w b xs → Box W b xs))) := Lib.hid (by
        rintro W rfl
        obtain ⟨q1, q2, q3, q4, q5, q6⟩ := HR.out
        obtain ⟨j1, j2, j3⟩ := HJ.out
        refine ⟨by omega, by omega, ?_, ?_, ?_, ?_⟩
        · refine RowT.drew (RowT.congr ((q3.put i hn1 B).put J hn2 A) fun k hk => ?_)
          rw [← revF_step f n i k (by omega) hk, ← j1, HA.out, HB.out]
        · have q7 := (((((q4.setCell (p := ⟨g, i * 3, none⟩) (Nat.le_refl _) (.int .i64 B.x)).setCell (p := ⟨g, i * 3 + 1, none⟩) (Nat.le_refl _) (.int .i64 B.y)).setCell (p := ⟨g, i * 3 + 2, none⟩) (Nat.le_refl _) (.int .i64 B.z)).setCell (p := ⟨g, J * 3, none⟩) (Nat.le_refl _) (.int .i64 A.x)).setCell (p := ⟨g, J * 3 + 1, none⟩) (Nat.le_refl _) (.int .i64 A.y)).setCell (p := ⟨g, J * 3 + 2, none⟩) (Nat.le_refl _) (.int .i64 A.z)
          exact below_drewL q7
        · simpa [World.setCell] using q5
        · intro b xs hb hB
          exact ((((((((q6 b xs hb hB).far hb _).far hb _).far hb _).far hb _).far hb _).far hb _)).drew)
      go_wp2
      go_roundw
      case rel => exact ⟨i + 1, _, by go_num, by first | rfl | go_num, Lib.hid (HN.out _ rfl)⟩
      case measure => first | (simp [intOf]; done) | (simp [intOf]; omega)
    · have HE : Hid (∀ k, k < n → revF f n i k = f (n - 1 - k)) := Lib.hid fun k hk => revF_end f n i k (by have := HR.out.1; omega) hk (by have := HR.out.2.1; omega)
      go_wp2
      obtain ⟨q1, q2, q3, q4, q5, q6⟩ := HR.out
      exact bodyPost_end (v := .tuple #[]) (by simp [results, Tryd.results66, go_sem]) rfl ⟨rfl, q3.congr HE.out, q4, q5, q6⟩
end Go.Proofs.YtafmfdhogoheaaaDoor
