/- The walk of the law FnExactFreeWord. -/
import Derived.Test.YtfgbmddmmgipnaaDoorFwL
import Derived.Test.YtfgbmddmmgipnaaDoorLoFreeWord
namespace Go.Proofs.YtfgbmddmmgipnaaDoor
open Go.ChangeShapes Go.WideShapes Go.ChangeAt Go.RowKit

theorem cand_ent {a b c d : Int} (hE : EntM ⟨a, b, c, d⟩) (j : Nat) : EntM (cand ⟨a, b, c, d⟩ j) := by
  obtain ⟨h1, h2, h3, h4⟩ := hE
  simp only at h1 h2 h3 h4
  unfold Ent at h1 h2 h3 h4
  match j with
  | 0 => exact ⟨h1, h2, h3, h4⟩
  | 1 => refine ⟨?_, ?_, ?_, ?_⟩ <;> simp only [cand, sM] <;> unfold Ent <;> omega
  | 2 => refine ⟨?_, ?_, ?_, ?_⟩ <;> simp only [cand, mS] <;> unfold Ent <;> omega
  | j + 3 => refine ⟨?_, ?_, ?_, ?_⟩ <;> simp only [cand, sM, mS] <;> unfold Ent <;> omega
theorem pos_of_eqs {q N : M4} (h : Eqs q N) (he : EntM q) (h1 : 1 ≤ N.a) (h2 : 0 ≤ N.b) (h3 : 0 ≤ N.c) (h4 : 1 ≤ N.d) (h5 : N.a * N.d - N.b * N.c = 1) : Pos N.a N.b N.c N.d := by
  obtain ⟨e1, e2, e3, e4⟩ := he
  unfold Ent at e1 e2 e3 e4
  rcases h with rfl | rfl
  · exact ⟨by omega, h2, h3, by omega, by omega, by omega, by omega, by omega, h5⟩
  · simp only [M4.neg] at e1 e2 e3 e4
    exact ⟨by omega, h2, h3, by omega, by omega, by omega, by omega, by omega, h5⟩
theorem idx_cases (f : FW) : (f.idx = 0 ∧ f.e = false ∧ f.h.isSome = false) ∨ (f.idx = 1 ∧ f.e = true ∧ f.h.isSome = false) ∨ (f.idx = 2 ∧ f.e = false ∧ f.h.isSome = true) ∨ (f.idx = 3 ∧ f.e = true ∧ f.h.isSome = true) := by
  obtain ⟨p, e, h⟩ := f
  cases e <;> cases h <;> simp [FW.idx]
theorem bytes_full (f : FW) : (if f.h.isSome then f.bytes ++ [83] else f.bytes) = (if f.e then [83] else []) ++ f.full.flatMap pr2 := by
  obtain ⟨p, e, h⟩ := f
  rcases h with _ | t
  · exact bytes_none
  · exact bytes_some
theorem lawFreeWord_walk (a b c d : Int) (_ : I64 a) (_ : I64 b) (_ : I64 c) (_ : I64 d) (w : World) (hms : MxS w) (hid : Idn w) :
    Calls Tryd.prog 5 #[(.agg #[.int .i64 a, .int .i64 b, .int .i64 c, .int .i64 d])] w fun e w' => e = .returned (.bool true) ∧ Below w.heap.size w w' := by
  rcases h : isM a b c d with _ | _
  · exact lawFreeWord_of a b c d ⟨#[]⟩ 1 (fun w => specFw_no a b c d h w) (fun w _ _ => implFw_no a b c d h w) w hid hms
  have hD : Det a b c d := isM_ent h
  have hEM : EntM ⟨a, b, c, d⟩ := ⟨hD.1, hD.2.1, hD.2.2.1, hD.2.2.2.1⟩
  have hcF : c.natAbs ≤ 1000000000 := by
    have := hD.2.2.1
    unfold Ent at this
    omega
  obtain ⟨xs, hxs⟩ : ∃ xs, chL c.natAbs a b c d = xs := ⟨_, rfl⟩
  obtain ⟨f, hf⟩ : ∃ f, frW xs = f := ⟨_, rfl⟩
  have hmt : Eqs ⟨a, b, c, d⟩ f.mt := by
    rw [← hf, ← hxs]
    exact (fr_mt hD (Nat.le_refl _)).symm
  have hlen2 : absS xs ≤ f.len + 2 := by rw [← hf, ← hxs]; exact chL_len2 _ _ _ _ _
  obtain ⟨hno, hyes, hEq⟩ := cand_is f ⟨a, b, c, d⟩ hmt
  obtain ⟨p1, p2, p3, p4, p5, p6⟩ := Pf_pos f.full
  have hP : Pos (Pf f.full).a (Pf f.full).b (Pf f.full).c (Pf f.full).d := pos_of_eqs hEq (cand_ent hEM _) p1 p2 p3 p4 p5
  obtain ⟨ys, hys⟩ : ∃ ys, runsF (msr (Pf f.full).a (Pf f.full).b (Pf f.full).c (Pf f.full).d) (Pf f.full).a (Pf f.full).b (Pf f.full).c (Pf f.full).d = ys := ⟨_, rfl⟩
  have hall : ∀ x ∈ ys, 0 ≤ x := fun x hx => (runsF_all _ hP x (hys ▸ hx)).1
  have hm := (pos_msr hP).1
  have hylen : ys.length ≤ 10000000000 := by
    have := runsF_len (msr (Pf f.full).a (Pf f.full).b (Pf f.full).c (Pf f.full).d) (Pf f.full).a (Pf f.full).b (Pf f.full).c (Pf f.full).d
    rw [hys] at this
    omega
  have hsum : sumI ys = f.full.length := by rw [← hys]; exact runs_sum hP (Nat.le_refl _)
  have hsum2 : sumI ys ≤ 1000000000000 := by
    have := runsF_sum (msr (Pf f.full).a (Pf f.full).b (Pf f.full).c (Pf f.full).d) hP
    rw [hys] at this
    obtain ⟨_, _, _, _, ha, hb, hc, hd, _⟩ := hP
    omega
  have hsp : spellB [85, 83] [86, 83] ys = f.full.flatMap pr2 := by
    rw [← hys]; exact runs_spell _ _ _ _ hP (Nat.le_refl _)
  have hfl := full_len f
  have hh : f.h.isSome = true → (1 : Int) ≤ f.full.length := by
    obtain ⟨p, e, hx⟩ := f
    rcases hx with _ | t
    · intro h0; simp at h0
    · intro _; simp [FW.full]; omega
  have hPP : ∀ w : World, Idn w → MxS w → ∀ w' : World, Below w.heap.size w w' → Calls Tryd.prog 22 #[(.agg #[.int .i64 a, .int .i64 b, .int .i64 c, .int .i64 d])] w' fun r w2 => ∃ v, r = .returned (.tuple #[.bool f.e, v, .bool f.h.isSome]) ∧ Gr w2 w'.heap.size v ys ∧ Below w'.heap.size w' w2 := fun w hi hs w' hb => by
    have := freeParts_is a b c d hEM f.e f.h.isSome f.idx (idx_cases f) (Pf f.full) hEq hP ((posS_iff _).2 hyes) (fun j hj => by
      rcases hq : posS (cand ⟨a, b, c, d⟩ j) with _ | _
      · rfl
      · exact absurd ((posS_iff _).1 hq) (hno j hj)) w' (Rd.below hi hb) (Rd.below hs hb)
    rwa [hys] at this
  by_cases hbig : 200 < f.len
  · have hbI : (200 : Int) < 2 * (f.full.length : Int) + (if f.e then 1 else 0) - (if f.h.isSome then 1 else 0) := by rw [← hfl]; omega
    have hi := fun (w : World) hi hs => implFw_yes a b c d h f.e f.h.isSome ys hall hylen _ hsum (by omega) (by rw [← hsum]; exact hsum2) hh [] 3 (.inl ⟨hbI, rfl, rfl⟩) w hi hs (hPP w hi hs)
    by_cases h6 : 600 < absS xs
    · exact lawFreeWord_of a b c d ⟨#[]⟩ 3 (fun w => specFw_yes a b c d h [] false [] 3 (.inr ⟨rfl, rfl, rfl⟩) (fun w => l02Free_is c.natAbs a b c d hD (Nat.le_refl _) hcF xs hxs [] false (.inl ⟨h6, rfl, rfl⟩) w) w) hi w hid hms
    · exact lawFreeWord_of a b c d ⟨#[]⟩ 3 (fun w => specFw_yes a b c d h f.bytes false [] 3 (.inr ⟨rfl, rfl, rfl⟩) (fun w => l02Free_is c.natAbs a b c d hD (Nat.le_refl _) hcF xs hxs f.bytes false (.inr ⟨by omega, by rw [hf], by rw [hf]; exact (decide_eq_false (by omega)).symm⟩) w) w) hi w hid hms
  · have hbI : 2 * (f.full.length : Int) + (if f.e then 1 else 0) - (if f.h.isSome then 1 else 0) ≤ 200 := by rw [← hfl]; omega
    have hi := fun (w : World) hi hs => implFw_yes a b c d h f.e f.h.isSome ys hall hylen _ hsum (by omega) (by rw [← hsum]; exact hsum2) hh f.bytes 0 (.inr ⟨hbI, rfl, by rw [hsp]; exact bytes_full f⟩) w hi hs (hPP w hi hs)
    exact lawFreeWord_of a b c d ⟨f.bytes.toArray⟩ 0 (fun w => specFw_yes a b c d h f.bytes true f.bytes 0 (.inl ⟨rfl, rfl, rfl⟩) (fun w => l02Free_is c.natAbs a b c d hD (Nat.le_refl _) hcF xs hxs f.bytes true (.inr ⟨by omega, by rw [hf], by rw [hf]; exact (decide_eq_true (by omega)).symm⟩) w) w) hi w hid hms
end Go.Proofs.YtfgbmddmmgipnaaDoor
