/- impl.firstPowers: contract. -/
import Derived.Test.YtmlbbhhjjepmkaaDoorMapK
import Derived.Test.YtmlbbhhjjepmkaaDoorPwI
namespace Go.Proofs.YtmlbbhhjjepmkaaDoor
open Go.ChangeShapes Go.WideShapes Go.ChangeAt Go.RowKit

theorem Box.of_heapK {w w' : World} {g : Nat} {xs : List Value} (h : Box w g xs) (he : w'.heap[g]? = w.heap[g]?) (hs : w.heap.size ≤ w'.heap.size) : Box w' g xs :=
  ⟨Nat.lt_of_lt_of_le h.1 hs, fun i v hv => ⟨(World.cell?_of_block (a := ⟨g, i, none⟩) he).trans (h.2 i v hv).1, (World.frozen?_of_block (a := ⟨g, i, none⟩) he).trans (h.2 i v hv).2⟩⟩
/-- What the loop keeps. -/
def OI (m : Mat) (w : World) (b g4 : Nat) (j : Nat) (p : Mat) (wr : World) : Prop :=
  Below w.heap.size w wr ∧ LK wr b (fP m j) j ∧ Box wr g4 p.cells ∧ Box wr w.heap.size m.cells
theorem dis_snoc {m : Mat} {j : Nat} (h : ∀ i i', 1 ≤ i → i < i' → i' ≤ j → Mat.pow m i ≠ Mat.pow m i') (hn : ∀ i, 1 ≤ i → i ≤ j → Mat.pow m i ≠ Mat.pow m (j + 1)) : ∀ i i', 1 ≤ i → i < i' → i' ≤ j + 1 → Mat.pow m i ≠ Mat.pow m i' := fun i i' h1 h2 h3 => by
  rcases (show i' ≤ j ∨ i' = j + 1 by omega) with h4 | rfl
  · exact h i i' h1 h2 h4
  · exact hn i h1 (by omega)
theorem ok_snoc {m : Mat} {j : Nat} (h : ∀ i, i ≤ j → (Mat.pow m i).ok = true) (hn : (Mat.pow m (j + 1)).ok = true) : ∀ i, i ≤ j + 1 → (Mat.pow m i).ok = true := fun i h1 => by
  rcases (show i ≤ j ∨ i = j + 1 by omega) with h2 | rfl
  · exact h i h2
  · exact hn
/-- What firstPowers gives. -/
def RetK (m : Mat) (w : World) (e : Ending) (w' : World) : Prop := ∃ b J, e = .returned (.map (some b)) ∧ w.heap.size ≤ b ∧ J ≤ 6 ∧ LK w' b (fP m J) J ∧ Hid (FE m J ∧ ∀ i, i ≤ J → (Mat.pow m i).ok = true) ∧ Below w.heap.size w w'

set_option maxRecDepth 100000 in
set_option maxHeartbeats 4000000 in
theorem firstPowers_any (m : Mat) (hm : m.is = true) (w : World) (hid : Idn w) : Calls Tryd.prog 26 #[(.agg #[.int .i64 m.a, .int .i64 m.b, .int .i64 m.c, .int .i64 m.d])] w (RetK m w) := by
  have HM := Lib.hid hm
  have HP0 := Lib.hid (Mat.pow_one' m)
  have hmm := @run_makeMap Tryd.prog
  have HU := Tryd.underlying51
  clear hm
  go_enter Tryd.func26, Tryd.ntmps26
  go_wp2
  go_loopw [5] (fun k wr => ∃ (j : Nat) (p : Mat), k = (.int .i64 (((j + 1 : Nat) : Int))) ∧ j ≤ 6 ∧ Hid (Mat.pow m (j + 1) = p) ∧ Hid (p.is = true) ∧ Hid ((∀ i i', 1 ≤ i → i < i' → i' ≤ j → Mat.pow m i ≠ Mat.pow m i') ∧ ∀ i, i ≤ j → (Mat.pow m i).ok = true) ∧ OI m w (w.heap.size + 1) (w.heap.size + 1 + 1) j p wr) (fun k _ => 7 - (intOf k).toNat)
  case atStart =>
    refine ⟨0, m, rfl, by omega, HP0, HM, Lib.hid ⟨fun i i' h1 h2 h3 => by omega, fun i hi => by obtain rfl : i = 0 := by omega
                                                                                                 exact (show Mat.one.ok = true by decide)⟩, by repeat (first | with_reducible exact own_refl _ | with_reducible assumption | with_reducible apply own_alloc | with_reducible apply own_drewN | with_reducible apply own_drew | ((with_reducible refine own_setCell ?_ ?_ _); rotate_left; focus (first | (simp; done) | (simp; omega))) | (with_reducible (refine own_trans ?_ (by assumption)))), ?_, Box.newAt (by simp) _ _, Box.alloc (Box.alloc (Box.new _ _ _) _) _⟩
    have := (LK.made (w.alloc (.cells #[.int .i64 m.a, .int .i64 m.b, .int .i64 m.c, .int .i64 m.d] 32))).alloc (.cells #[.int .i64 m.a, .int .i64 m.b, .int .i64 m.c, .int .i64 m.d] 32)
    have e0 : fP m 0 = fun _ => none := by funext x; simp [fP]
    rw [e0]
    simpa only [World.size_alloc] using this
  case round =>
    obtain ⟨j, p, rfl, hj, HP, HI, HD, T, hLK, hP, hM⟩ := hrel
    have HOK := Lib.hid (Mat.is_ok HI.out)
    obtain ⟨q, hq⟩ : ∃ q : Int, ((j + 1 : Nat) : Int) = q := ⟨_, rfl⟩
    have HQ := Lib.hid hq
    obtain ⟨_, _, _, _, _, _, _, _, _⟩ := hP.four
    obtain ⟨_, _, _, _, _, _, _, _, _⟩ := hM.four
    have hlk := hLK.look p HOK.out
    have hb := hLK.lt
    rw [hq]
    by_cases hj6 : j < 6
    · have hq6 : q ≤ 6 := by omega
      have hq1 : 1 ≤ q := by omega
      clear hq
      rcases hf : fP m j (kM p) with _ | c
      · rw [hf] at hlk
        simp only [Option.getD_none, Option.isSome_none] at hlk
        obtain ⟨w2, hr, hL2, hg⟩ := hLK.put (by omega) p HOK.out q
        have HF2 := Lib.hid (show LK w2 (w.heap.size + 1) (fP m (j + 1)) (j + 1) by
          have e : fP m (j + 1) = fun x => @ite _ (x = kM p) (Classical.propDecidable _) (some q) (fP m j x) := by
            funext x
            rw [fP, HP.out, ← HQ.out]
          rw [e]; exact hL2)
        have HD2 := Lib.hid (show (∀ i i', 1 ≤ i → i < i' → i' ≤ j + 1 → Mat.pow m i ≠ Mat.pow m i') ∧ ∀ i, i ≤ j + 1 → (Mat.pow m i).ok = true from
          ⟨dis_snoc HD.out.1 (fun i h1 h2 => by rw [HP.out]; exact fP_none hf i h1 h2), ok_snoc HD.out.2 (by rw [HP.out]; exact HOK.out)⟩)
        have T2 : Below w.heap.size w w2 := T.grown hg T.size (fun k e => by cases e; omega)
        have P2 : Box w2 (w.heap.size + 1 + 1) p.cells := hP.of_heapK (hg.block _ hP.1 (by simp)) hg.size
        have M2 : Box w2 w.heap.size m.cells := hM.of_heapK (hg.block _ hM.1 (by simp)) hg.size
        obtain ⟨_, _, _, _, _, _, _, _, _⟩ := P2.four
        obtain ⟨_, _, _, _, _, _, _, _, _⟩ := M2.four
        clear hf hL2 hg hP hM hLK hb
        rcases ho : (p.mul m).ok with _ | _
        · have HPA := Lib.hid (PA_no HI.out HM.out ho)
          have HN := Lib.hid (show FE m (j + 1) from ⟨HD2.out.1, .inr (.inr ⟨j + 2, by rw [show j + 2 = (j + 1) + 1 from rfl, Mat.pow, HP.out]; exact ho⟩)⟩)
          clear ho
          go_wp2_with fail
          refine (prodAll_any [p, m] w2.heap.size 2 (by simp) _ _ HPA.out _ (Rd.below hid (own_alloc T2 _)) (Box.new _ _ _)).mono ?_
          rintro e w3 ⟨rfl, hb3⟩
          have L3 := (HF2.out.alloc (.cells #[.int .i64 p.a, .int .i64 p.b, .int .i64 p.c, .int .i64 p.d, .int .i64 m.a, .int .i64 m.b, .int .i64 m.c, .int .i64 m.d] 32)).below hb3
          go_wp2
          go_ret
          exact ⟨_, j + 1, rfl, by omega, by omega, L3.alloc _, Lib.hid ⟨HN.out, HD2.out.2⟩, by repeat (first | with_reducible exact own_refl _ | with_reducible assumption | with_reducible apply own_alloc | with_reducible apply own_drewN | with_reducible apply own_drew | ((with_reducible refine own_setCell ?_ ?_ _); rotate_left; focus (first | (simp; done) | (simp; omega))) | (with_reducible (refine own_trans ?_ (by assumption))))⟩
        · have HPA := Lib.hid (PA_yes HI.out HM.out ho)
          obtain ⟨p', hp'⟩ : ∃ p', p.mul m = p' := ⟨_, rfl⟩
          have HP' := Lib.hid (show Mat.pow m (j + 2) = p' by rw [show j + 2 = (j + 1) + 1 from rfl, Mat.pow, HP.out, hp'])
          have HI' := Lib.hid (show p'.is = true by rw [← hp', Mat.is_mul HI.out HM.out]; exact ho)
          rw [hp'] at HPA
          clear ho hp'
          go_wp2_with fail
          refine (prodAll_any [p, m] w2.heap.size 2 (by simp) _ _ HPA.out _ (Rd.below hid (own_alloc T2 _)) (Box.new _ _ _)).mono ?_
          rintro e w3 ⟨rfl, hb3⟩
          have L3 := ((HF2.out.alloc (.cells #[.int .i64 p.a, .int .i64 p.b, .int .i64 p.c, .int .i64 p.d, .int .i64 m.a, .int .i64 m.b, .int .i64 m.c, .int .i64 m.d] 32)).below hb3).alloc (.cells #[.int .i64 p'.a, .int .i64 p'.b, .int .i64 p'.c, .int .i64 p'.d] 32)
          have P3 := ((P2.alloc (.cells #[.int .i64 p.a, .int .i64 p.b, .int .i64 p.c, .int .i64 p.d, .int .i64 m.a, .int .i64 m.b, .int .i64 m.c, .int .i64 m.d] 32)).below hb3).alloc (.cells #[.int .i64 p'.a, .int .i64 p'.b, .int .i64 p'.c, .int .i64 p'.d] 32)
          have M3 := ((M2.alloc (.cells #[.int .i64 p.a, .int .i64 p.b, .int .i64 p.c, .int .i64 p.d, .int .i64 m.a, .int .i64 m.b, .int .i64 m.c, .int .i64 m.d] 32)).below hb3).alloc (.cells #[.int .i64 p'.a, .int .i64 p'.b, .int .i64 p'.c, .int .i64 p'.d] 32)
          have N3 : Box (w3.alloc (.cells #[.int .i64 p'.a, .int .i64 p'.b, .int .i64 p'.c, .int .i64 p'.d] 32)) w3.heap.size [.int .i64 p'.a, .int .i64 p'.b, .int .i64 p'.c, .int .i64 p'.d] := Box.new _ _ _
          obtain ⟨_, _, _, _, _, _, _, _, _⟩ := P3.four
          obtain ⟨_, _, _, _, _, _, _, _, _⟩ := N3.four
          have T3 : Below w.heap.size w (w3.alloc (.cells #[.int .i64 p'.a, .int .i64 p'.b, .int .i64 p'.c, .int .i64 p'.d] 32)) := by repeat (first | with_reducible exact own_refl _ | with_reducible assumption | with_reducible apply own_alloc | with_reducible apply own_drewN | with_reducible apply own_drew | ((with_reducible refine own_setCell ?_ ?_ _); rotate_left; focus (first | (simp; done) | (simp; omega))) | (with_reducible (refine own_trans ?_ (by assumption))))
          go_wp2
          go_roundw
          case rel => exact ⟨j + 1, p', by rw [← HQ.out]; go_num, by omega, HP', HI', HD2, by repeat (first | with_reducible exact own_refl _ | with_reducible assumption | with_reducible apply own_alloc | with_reducible apply own_drewN | with_reducible apply own_drew | ((with_reducible refine own_setCell ?_ ?_ _); rotate_left; focus (first | (simp; done) | (simp; omega))) | (with_reducible (refine own_trans ?_ (by assumption)))), ((((L3.set (by dsimp only; omega) _).set (by dsimp only; omega) _).set (by dsimp only; omega) _).set (by dsimp only; omega) _), P3.put4 _ _ _ _, ((((M3.far (by dsimp only; omega) _).far (by dsimp only; omega) _).far (by dsimp only; omega) _).far (by dsimp only; omega) _)⟩
          case measure => have := HQ.out; simp [intOf]; omega
      · rw [hf] at hlk
        simp only [Option.getD_some, Option.isSome_some] at hlk
        have HN := Lib.hid (show FE m j by
          obtain ⟨i, h1, h2, _, h4⟩ := fP_some HOK.out HD.out.2 hf
          exact ⟨HD.out.1, .inr (.inl ⟨i, h1, h2, by rw [HP.out, h4]⟩)⟩)
        clear hf
        go_wp2
        go_ret
        exact ⟨_, j, rfl, by omega, hj, hLK, Lib.hid ⟨HN.out, HD.out.2⟩, T⟩
    · have hje : j = 6 := by omega
      have hq6 : 6 < q := by omega
      have HN := Lib.hid (show FE m j from ⟨HD.out.1, .inl hje⟩)
      clear hje hq
      go_wp2
      go_ret
      exact ⟨_, j, rfl, by omega, hj, hLK, Lib.hid ⟨HN.out, HD.out.2⟩, T⟩
end Go.Proofs.YtmlbbhhjjepmkaaDoor
