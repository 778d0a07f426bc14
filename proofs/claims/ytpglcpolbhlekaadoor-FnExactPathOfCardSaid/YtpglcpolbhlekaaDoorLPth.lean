/- The walk of the law FnExactPathOf. -/
import Derived.Test.YtpglcpolbhlekaaDoorPath
import Derived.Test.YtpglcpolbhlekaaDoorLoPathOf
namespace Go.Proofs.YtpglcpolbhlekaaDoor
open Go.ChangeShapes Go.WideShapes Go.ChangeAt Go.RowKit

theorem mem_nonneg {xs : List Int} (h : okFrom 0 xs = true) : ∀ x ∈ xs, 0 ≤ x := fun x hx => by
  obtain ⟨k, hk, rfl⟩ := List.mem_iff_getElem.1 hx
  have := (okRun_get h k hk).1
  simpa [List.getD, List.getElem?_eq_getElem hk] using this
set_option maxRecDepth 100000 in
set_option maxHeartbeats 1000000 in
theorem lawPathOf_walk (p q : Int) (_ : I64 p) (_ : I64 q) (w : World) (ea : Addr) (hE : Er w ea) :
    Calls Tryd.prog 6 #[(.agg #[.int .i64 p, .int .i64 q])] w fun e w' => e = .returned (.bool true) ∧ Below w.heap.size w w' := by
  rcases h : isF p q with _ | _
  · exact lawPathOf_of p q ea ⟨#[]⟩ 1 (fun w => specPth_code p q 1 rfl (fun w => given_is p q 1 (.inl ⟨h, rfl⟩) w) w) (fun w hE => implPth_no p q h ea w hE) w hE
  obtain ⟨ep, eq, hq0, hgcd, _⟩ := isF_ent h
  by_cases hs : p ≤ 0 ∨ q = 0
  · exact lawPathOf_of p q ea ⟨#[]⟩ 5 (fun w => specPth_code p q 5 rfl (fun w => given_is p q 5 (.inr (.inl ⟨h, hs, rfl⟩)) w) w)
      (fun w _ => implPth_ok p q _ 5 w (fun w0 g1 B => cloT_code p q 5 g1 rfl (fun w => rop_state p q h hs w) w0 B)) w hE
  have h1 : 0 < p := by omega
  have h2 : 0 < q := by omega
  have h2' : (q == 0) = false := by simp; omega
  by_cases hl : 10000 < p ∨ 10000 < q
  · exact lawPathOf_of p q ea ⟨#[]⟩ 3 (fun w => specPth_code p q 3 rfl (fun w => given_is p q 3 (.inr (.inr (.inl ⟨h, h1, h2', hl, rfl⟩))) w) w)
      (fun w _ => implPth_ok p q _ 3 w (fun w0 g1 B => cloT_code p q 3 g1 rfl (fun w => rop_limit p q h h1 h2' (allW_far h1 hq0 hl) w) w0 B)) w hE
  have h3 : p ≤ 10000 := by omega
  have h4 : q ≤ 10000 := by omega
  have hW := allW_near h1 hq0 h3 h4
  have hG : ∀ w, Calls Tryd.prog 40 #[(.agg #[.int .i64 p, .int .i64 q])] w fun e w' => e = .returned (.int .i64 0) ∧ Below w.heap.size w w' := fun w => given_is p q 0 (.inr (.inr (.inr ⟨h, h1, h2', h3, h4, rfl⟩))) w
  have key : ∀ xs : List Int, (∀ x ∈ xs, 0 ≤ x) → xs.length ≤ 1000 → Pth p q (nums (spellB [82] [76] xs)) → (∀ w, Calls Tryd.prog 44 #[(.agg #[.int .i64 p, .int .i64 q])] w (RetS xs 0 w)) →
      Calls Tryd.prog 6 #[(.agg #[.int .i64 p, .int .i64 q])] w fun e w' => e = .returned (.bool true) ∧ Below w.heap.size w w' := by
    intro xs hx hn hP hr
    have hlen := spellN_len 82 76 xs hx
    have hpl := pth_len hP h1 h2
    have hsh : sumI xs ≤ 1000000 := by
      have : (nums (spellB [82] [76] xs)).length = (spellB [82] [76] xs).length := by simp [nums]
      omega
    have hw' : ∀ w, Calls Tryd.prog 41 #[(.agg #[.int .i64 p, .int .i64 q])] w fun e w' => ∃ (m : Mat) (v : Value), e = .returned (.tuple #[(.agg #[.int .i64 m.b, .int .i64 m.d]), (.agg #[.int .i64 m.a, .int .i64 m.c]), v]) ∧ GrB w' (w.heap.size + 1) v (nums (spellB [82] [76] xs)) ∧ Below w.heap.size w w' := fun w => by
      refine (specWalk_any p q (by omega) h3 (by omega) h4 hgcd w).mono ?_
      rintro e w' ⟨m, v, done, rfl, HF, hG, hb⟩
      have hu := pth_unique HF.out.2.2.2.2.2 _ hP
      rw [hu] at hG
      exact ⟨m, v, rfl, hG, hb⟩
    by_cases hbig : 200 < sumI xs
    · exact lawPathOf_of p q ea ⟨#[]⟩ 3 (fun w => specPth_ok p q _ _ 3 (by omega) (.inl ⟨by omega, rfl, rfl⟩) hG hw' w)
        (fun w _ => implPth_ok p q _ 3 w (fun w0 g1 B => cloT_big p q xs hx (by omega) _ rfl (by omega) hbig g1 hr w0 B)) w hE
    · exact lawPathOf_of p q ea _ 0 (fun w => specPth_ok p q _ _ 0 (by omega) (.inr ⟨by omega, rfl, rfl⟩) hG hw' w)
        (fun w _ => implPth_ok p q _ 0 w (fun w0 g1 B => cloT_yes p q xs hx (by omega) _ rfl (by omega) g1 hr w0 B)) w hE
  by_cases hone : p = 1 ∧ q = 1
  · obtain ⟨rfl, rfl⟩ := hone
    exact key [] (by simp) (by simp) (.stop 1) (fun w => rop_zero 1 1 [1] 0 0 h (by omega) (by omega) rfl hW (by decide) rfl (by decide) (by omega) (by omega) rfl (by omega) w)
  · obtain ⟨xs, hx⟩ : ∃ xs, cfL q.natAbs p q = xs := ⟨_, rfl⟩
    obtain ⟨r1, r2, r3⟩ := cf_runs q.natAbs p q h2 (Nat.le_refl _) h1 (by omega) (by omega) hgcd hone 0 (.inl rfl)
    obtain ⟨hP, _⟩ := way_cf q.natAbs p q h2 (Nat.le_refl _) h1 hgcd hone
    have hlen := cf_short 14 q.natAbs p q hq0 (by omega)
    rw [hx] at r1 r2 r3 hlen hP
    obtain ⟨n, hn⟩ : ∃ n, xs.length = n + 1 := ⟨xs.length - 1, by omega⟩
    obtain ⟨y, hy⟩ : ∃ y, xs.getD n 0 - 1 = y := ⟨_, rfl⟩
    have hset : decL xs = xs.set n y := by rw [decL_set xs r3, hn, Nat.add_sub_cancel, hy]
    have hne0 : decL xs ≠ [0] := by
      intro he
      rw [he] at r2
      simp [vcol] at r2
      omega
    obtain ⟨y1, y2, y3⟩ := okRun_get r1 n (by rw [decL_len, hn]; omega)
    have hgy : (decL xs).getD n 0 = y := by rw [hset]; simp [List.getD, hn]
    rw [hgy] at y1 y2 y3
    have hy0 : y ≠ 0 := by
      rcases y3 with hn0 | h
      · intro hy0
        apply hne0
        have hn0' : n = 0 := by omega
        subst hn0' hy0
        obtain ⟨x0, hx0⟩ : ∃ x0, xs = [x0] := by
          match xs, hn with
          | [x0], _ => exact ⟨x0, rfl⟩
        rw [hset, hx0]; rfl
      · exact h
    refine key (decL xs) (mem_nonneg r1) (by rw [decL_len]; omega) hP (fun w => ?_)
    rw [hset]
    exact rop_some p q xs n y h h1 h2 h2' hW hx hn hy (by omega) (by omega) (by simpa using hy0) (by omega) w
end Go.Proofs.YtpglcpolbhlekaaDoor
