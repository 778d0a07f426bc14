/- Free words: the parts of a matrix' free word. -/
import Derived.Test.YtfgbmddmmgipnaaDoorFwJ
namespace Go.Proofs.YtfgbmddmmgipnaaDoor
open Go.ChangeShapes Go.WideShapes Go.ChangeAt Go.RowKit

theorem Gr.low {w : World} {L L' : Nat} {v : Value} {xs : List Int} (h : Gr w L v xs) (hL : L' ≤ L) : Gr w L' v xs := by
  obtain ⟨hl, h | ⟨g, cap, cur, hv, hg, hr⟩⟩ := h
  · exact ⟨hl, .inl h⟩
  · exact ⟨hl, .inr ⟨g, cap, cur, hv, Nat.le_trans hL hg, hr⟩⟩
theorem posB_neg {N : M4} (h : 1 ≤ N.a) : posB N.neg.a N.neg.b N.neg.c N.neg.d = false := by
  unfold posB M4.neg
  rw [decide_eq_false_iff_not]
  simp only
  omega
theorem neg_neg4 (N : M4) : - -N.a = N.a ∧ - -N.b = N.b ∧ - -N.c = N.c ∧ - -N.d = N.d := by omega
set_option maxRecDepth 100000 in
set_option maxHeartbeats 4000000 in
theorem freeParts_is (a b c d : Int) (hE : EntM ⟨a, b, c, d⟩) (e h : Bool) (K : Nat) (hK : (K = 0 ∧ e = false ∧ h = false) ∨ (K = 1 ∧ e = true ∧ h = false) ∨ (K = 2 ∧ e = false ∧ h = true) ∨ (K = 3 ∧ e = true ∧ h = true))
    (N : M4) (hN : Eqs (cand ⟨a, b, c, d⟩ K) N) (hp : Pos N.a N.b N.c N.d) (hpos : posS (cand ⟨a, b, c, d⟩ K) = true) (hno : ∀ j, j < K → posS (cand ⟨a, b, c, d⟩ j) = false) (w : World) (hid : Idn w) (hms : MxS w) :
    Calls Tryd.prog 22 #[(.agg #[.int .i64 a, .int .i64 b, .int .i64 c, .int .i64 d])] w fun r w' => ∃ v, r = .returned (.tuple #[.bool e, v, .bool h]) ∧ Gr w' w.heap.size v (runsF (msr N.a N.b N.c N.d) N.a N.b N.c N.d) ∧ Below w.heap.size w w' := by
  have hEC : ∀ j, EntM (cand ⟨a, b, c, d⟩ j) := by
    obtain ⟨h1, h2, h3, h4⟩ := hE
    simp only at h1 h2 h3 h4
    unfold Ent at h1 h2 h3 h4
    intro j
    match j with
    | 0 => exact ⟨h1, h2, h3, h4⟩
    | 1 => refine ⟨?_, ?_, ?_, ?_⟩ <;> simp only [cand, sM] <;> unfold Ent <;> omega
    | 2 => refine ⟨?_, ?_, ?_, ?_⟩ <;> simp only [cand, mS] <;> unfold Ent <;> omega
    | j + 3 => refine ⟨?_, ?_, ?_, ?_⟩ <;> simp only [cand, sM, mS] <;> unfold Ent <;> omega
  have HIX := Lib.hid (fun g w h1 h2 h3 h4 h5 => idxF_is (cand ⟨a, b, c, d⟩) K (by omega) hEC hpos hno g w h1 h2 h3 h4 h5)
  have HEK := Lib.hid (hEC K)
  have HP := Lib.hid hp
  have HN := Lib.hid hN
  have HE1 := Lib.hid (hEC 1)
  obtain ⟨ha, hb, hc, hd⟩ := hE
  have HM1 := Lib.hid (fun w => mulSL a b c d ha hb hc hd w)
  have HM2 := Lib.hid (fun w => mulSR a b c d (-a) (-c) rfl rfl ha hb hc hd w)
  have HM3 := Lib.hid (fun w => mulSR (-c) (-d) a b (- -c) (-a) rfl rfl HE1.out.1 HE1.out.2.1 HE1.out.2.2.1 HE1.out.2.2.2 w)
  clear hEC hpos hno hp hN ha hb hc hd
  have x0 := Rd.below hms (own_refl w)
  obtain ⟨_, s0, s1, s2, s3⟩ := hms.four
  go_enter Tryd.func22, Tryd.ntmps22
  go_wp2_with fail
  refine (HM1.out _).mono ?_
  rintro r w1 ⟨rfl, hb1⟩
  have T1 : Below w.heap.size w w1 := by repeat (first | with_reducible exact own_refl _ | with_reducible assumption | with_reducible apply own_alloc | with_reducible apply own_drewN | with_reducible apply own_drew | ((with_reducible refine own_setCell ?_ ?_ _); rotate_left; focus (first | (simp; done) | (simp; omega))) | (with_reducible (refine own_trans ?_ (by assumption))))
  have B1 : Box w1 w.heap.size [.int .i64 a, .int .i64 b, .int .i64 c, .int .i64 d] := Box.below (Box.new _ _ _) hb1
  go_upto_region 2 with fail
  have BB : Box (w1.alloc (.cells #[.int .i64 (-c), .int .i64 (-d), .int .i64 a, .int .i64 b] 23)) w1.heap.size [.int .i64 (-c), .int .i64 (-d), .int .i64 a, .int .i64 b] := Box.new _ _ _
  have BA := B1.alloc (.cells #[.int .i64 (-c), .int .i64 (-d), .int .i64 a, .int .i64 b] 23)
  have T := own_alloc T1 (.cells #[.int .i64 (-c), .int .i64 (-d), .int .i64 a, .int .i64 b] 23)
  have hg1 : w.heap.size < w1.heap.size := B1.1
  generalize w1.alloc (.cells #[.int .i64 (-c), .int .i64 (-d), .int .i64 a, .int .i64 b] 23) = W at BA BB T ⊢
  generalize w1.heap.size = g1 at *
  clear B1 T1 hb1 s0 s1 s2 s3
  obtain ⟨_, _, _, _, _, _, _, _, _⟩ := BA.four
  obtain ⟨_, _, _, _, _, _, _, _, _⟩ := BB.four
  obtain ⟨_, _, _, _, _⟩ := (Rd.below hms T).four
  go_cut [6] (fun v wc => ∃ gk : Nat, v = .slice (some ⟨gk, 0, none⟩) 4 4 ∧ gk < wc.heap.size ∧ At4 wc gk 0 (cand ⟨a, b, c, d⟩ 0) ∧ At4 wc gk 4 (cand ⟨a, b, c, d⟩ 1) ∧ At4 wc gk 8 (cand ⟨a, b, c, d⟩ 2) ∧ At4 wc gk 12 (cand ⟨a, b, c, d⟩ 3) ∧ Below w.heap.size w wc)
  case first =>
    go_region_held3 (fun w' => w'.cell? ⟨w.heap.size, 0, none⟩ = some (.int .i64 a) ∧ w'.cell? ⟨w.heap.size, 1, none⟩ = some (.int .i64 b) ∧ w'.cell? ⟨w.heap.size, 2, none⟩ = some (.int .i64 c) ∧ w'.cell? ⟨w.heap.size, 3, none⟩ = some (.int .i64 d) ∧ w'.cell? ⟨g1, 0, none⟩ = some (.int .i64 (-c)) ∧ w'.cell? ⟨g1, 1, none⟩ = some (.int .i64 (-d)) ∧ w'.cell? ⟨g1, 2, none⟩ = some (.int .i64 a) ∧ w'.cell? ⟨g1, 3, none⟩ = some (.int .i64 b) ∧ w'.cell? ⟨0, 0, none⟩ = some (.int .i64 0) ∧ w'.cell? ⟨0, 1, none⟩ = some (.int .i64 (-1)) ∧ w'.cell? ⟨0, 2, none⟩ = some (.int .i64 1) ∧ w'.cell? ⟨0, 3, none⟩ = some (.int .i64 0)) (go_keep)
      (first
        | (go_at_call 35; (with_reducible refine (HM2.out _).mono ?_); rintro r w5 ⟨rfl, hb5⟩; have T := (by first | exact own_trans T hb5 | exact own_trans (own_drew T) hb5 : Below w.heap.size w w5); have BA := Box.below (by first | exact BA | exact Box.drew BA) hb5; have BB := Box.below (by first | exact BB | exact Box.drew BB) hb5; obtain ⟨_, _, _, _, _, _, _, _, _⟩ := BA.four; obtain ⟨_, _, _, _, _, _, _, _, _⟩ := BB.four; obtain ⟨_, _, _, _, _⟩ := (Rd.below hms T).four)
        | (go_at_call 35; (with_reducible refine (HM3.out _).mono ?_); rintro r w5 ⟨rfl, hb5⟩; have T := (by first | exact own_trans T hb5 | exact own_trans (own_drew T) hb5 : Below w.heap.size w w5); have BA := Box.below (by first | exact BA | exact Box.drew BA) hb5; have BB := Box.below (by first | exact BB | exact Box.drew BB) hb5; obtain ⟨_, _, _, _, _, _, _, _, _⟩ := BA.four; obtain ⟨_, _, _, _, _, _, _, _, _⟩ := BB.four; obtain ⟨_, _, _, _, _⟩ := (Rd.below hms T).four))
    all_goals
      go_wp2_with fail
      go_meet
      exact ⟨_, rfl, by simp, ⟨by simp [cand], by simp [cand], by simp [cand], by simp [cand]⟩, ⟨by simp [cand, sM], by simp [cand, sM], by simp [cand, sM], by simp [cand, sM]⟩, ⟨by simp [cand, mS], by simp [cand, mS], by simp [cand, mS], by simp [cand, mS]⟩, ⟨by simp [cand, sM, mS], by simp [cand, sM, mS], by simp [cand, sM, mS], by simp [cand, sM, mS]⟩, by repeat (first | with_reducible exact own_refl _ | with_reducible assumption | with_reducible apply own_alloc | with_reducible apply own_drewN | with_reducible apply own_drew | ((with_reducible refine own_setCell ?_ ?_ _); rotate_left; focus (first | (simp; done) | (simp; omega))) | (with_reducible (refine own_trans ?_ (by assumption))))⟩
  case rest =>
    clear BA BB T
    obtain ⟨gk, rfl, hgk, A0, A1, A2, A3, T⟩ := hcut
    generalize hwc : wc = wd at *
    clear hwc HM1 HM2 HM3 HE1
    go_wp2_with fail
    refine (HIX.out gk wd hgk A0 A1 A2 A3).mono ?_
    rintro r w6 ⟨rfl, hb6⟩
    have A0 := A0.below hgk hb6
    have A1 := A1.below hgk hb6
    have A2 := A2.below hgk hb6
    have A3 := A3.below hgk hb6
    have T := own_trans T hb6
    clear HIX hb6 hgk
    rcases hK with ⟨rfl, rfl, rfl⟩ | ⟨rfl, rfl, rfl⟩ | ⟨rfl, rfl, rfl⟩ | ⟨rfl, rfl, rfl⟩
    · obtain ⟨a0, a1, a2, a3⟩ := A0
      have HQ := HN
      have HEQ := HEK
      clear A1 A2 A3 HN HEK
      generalize cand ⟨a, b, c, d⟩ 0 = q at *
      obtain ⟨qa, qb, qc, qd⟩ := q
      have a0 : w6.cell? ⟨gk, 0, none⟩ = some (.int .i64 qa) := a0
      have a1 : w6.cell? ⟨gk, 1, none⟩ = some (.int .i64 qb) := a1
      have a2 : w6.cell? ⟨gk, 2, none⟩ = some (.int .i64 qc) := a2
      have a3 : w6.cell? ⟨gk, 3, none⟩ = some (.int .i64 qd) := a3
      rcases HQ.out with hq | hq
      · subst hq
        clear HQ
        have hr : posB qa qb qc qd = true := decide_eq_true ⟨HP.out.1, HP.out.2.1, HP.out.2.2.1, HP.out.2.2.2.1⟩
        have HPI := Lib.hid (fun w => implPos_is true qa qb qc qd w hr)
        have HRU := Lib.hid (fun w hi => implRuns_any (msr qa qb qc qd) qa qb qc qd HP.out (Nat.le_refl _) (Nat.le_trans (pos_msr HP.out).1 (by decide)) w hi)
        have hz := T.size
        clear hr HP
        go_wp2_with fail
        refine (HPI.out _).mono ?_
        rintro r w7 ⟨rfl, hb7⟩
        have B7 : Box w7 w6.heap.size [.int .i64 qa, .int .i64 qb, .int .i64 qc, .int .i64 qd] := Box.below (Box.new _ _ _) hb7
        obtain ⟨_, _, _, _, _, _, _, _, _⟩ := B7.four
        have T7 : Below w.heap.size w w7 := by repeat (first | with_reducible exact own_refl _ | with_reducible assumption | with_reducible apply own_alloc | with_reducible apply own_drewN | with_reducible apply own_drew | ((with_reducible refine own_setCell ?_ ?_ _); rotate_left; focus (first | (simp; done) | (simp; omega))) | (with_reducible (refine own_trans ?_ (by assumption))))
        go_wp2_with fail
        refine (HRU.out _ (Rd.below hid T7)).mono ?_
        rintro r w8 ⟨v, rfl, hG, hb8⟩
        go_wp2
        go_ret3
        exact ⟨v, rfl, hG.low (Nat.le_trans T7.size (Nat.le_succ _)), own_trans T7 hb8⟩
      · have e1 : qa = -N.a := congrArg M4.a hq
        have e2 : qb = -N.b := congrArg M4.b hq
        have e3 : qc = -N.c := congrArg M4.c hq
        have e4 : qd = -N.d := congrArg M4.d hq
        obtain ⟨na, nb, nc, nd⟩ := N
        simp only at e1 e2 e3 e4
        have hd1 := pos_d HP.out
        have hr : posB qa qb qc qd = false := by
          unfold posB
          rw [decide_eq_false_iff_not]
          simp only at hd1
          omega
        have HPI := Lib.hid (fun w => implPos_is false qa qb qc qd w hr)
        have HNG := Lib.hid (fun w => fwNeg qa qb qc qd HEQ.out.1 HEQ.out.2.1 HEQ.out.2.2.1 HEQ.out.2.2.2 w)
        rw [show -qa = na by omega, show -qb = nb by omega, show -qc = nc by omega, show -qd = nd by omega] at HNG
        have HRU := Lib.hid (fun w hi => implRuns_any (msr na nb nc nd) na nb nc nd HP.out (Nat.le_refl _) (Nat.le_trans (pos_msr HP.out).1 (by decide)) w hi)
        have hz := T.size
        clear hr HP hd1 e1 e2 e3 e4 hq HQ HEQ
        go_wp2_with fail
        refine (HPI.out _).mono ?_
        rintro r w7 ⟨rfl, hb7⟩
        have B7 : Box w7 w6.heap.size [.int .i64 qa, .int .i64 qb, .int .i64 qc, .int .i64 qd] := Box.below (Box.new _ _ _) hb7
        obtain ⟨_, _, _, _, _, _, _, _, _⟩ := B7.four
        have T7 : Below w.heap.size w w7 := by repeat (first | with_reducible exact own_refl _ | with_reducible assumption | with_reducible apply own_alloc | with_reducible apply own_drewN | with_reducible apply own_drew | ((with_reducible refine own_setCell ?_ ?_ _); rotate_left; focus (first | (simp; done) | (simp; omega))) | (with_reducible (refine own_trans ?_ (by assumption))))
        go_wp2_with fail
        refine (HNG.out _).mono ?_
        rintro r w9 ⟨rfl, hb9⟩
        have B9 : Box w9 w6.heap.size [.int .i64 qa, .int .i64 qb, .int .i64 qc, .int .i64 qd] := Box.below B7 hb9
        obtain ⟨_, _, _, _, _, _, _, _, _⟩ := B9.four
        have T9 := own_trans T7 hb9
        go_wp2_with fail
        refine (HRU.out _ (Rd.below hid (by repeat (first | with_reducible exact own_refl _ | with_reducible assumption | with_reducible apply own_alloc | with_reducible apply own_drewN | with_reducible apply own_drew | ((with_reducible refine own_setCell ?_ ?_ _); rotate_left; focus (first | (simp; done) | (simp; omega))) | (with_reducible (refine own_trans ?_ (by assumption))))))).mono ?_
        rintro r w8 ⟨v, rfl, hG, hb8⟩
        go_wp2
        go_ret3
        exact ⟨v, rfl, hG.low (by have := T9.size; simp [World.setCell]; omega), by repeat (first | with_reducible exact own_refl _ | with_reducible assumption | with_reducible apply own_alloc | with_reducible apply own_drewN | with_reducible apply own_drew | ((with_reducible refine own_setCell ?_ ?_ _); rotate_left; focus (first | (simp; done) | (simp; omega))) | (with_reducible (refine own_trans ?_ (by assumption))))⟩
    · obtain ⟨a0, a1, a2, a3⟩ := A1
      have HQ := HN
      have HEQ := HEK
      clear A0 A2 A3 HN HEK
      generalize cand ⟨a, b, c, d⟩ 1 = q at *
      obtain ⟨qa, qb, qc, qd⟩ := q
      have a0 : w6.cell? ⟨gk, 4, none⟩ = some (.int .i64 qa) := a0
      have a1 : w6.cell? ⟨gk, 5, none⟩ = some (.int .i64 qb) := a1
      have a2 : w6.cell? ⟨gk, 6, none⟩ = some (.int .i64 qc) := a2
      have a3 : w6.cell? ⟨gk, 7, none⟩ = some (.int .i64 qd) := a3
      rcases HQ.out with hq | hq
      · subst hq
        clear HQ
        have hr : posB qa qb qc qd = true := decide_eq_true ⟨HP.out.1, HP.out.2.1, HP.out.2.2.1, HP.out.2.2.2.1⟩
        have HPI := Lib.hid (fun w => implPos_is true qa qb qc qd w hr)
        have HRU := Lib.hid (fun w hi => implRuns_any (msr qa qb qc qd) qa qb qc qd HP.out (Nat.le_refl _) (Nat.le_trans (pos_msr HP.out).1 (by decide)) w hi)
        have hz := T.size
        clear hr HP
        go_wp2_with fail
        refine (HPI.out _).mono ?_
        rintro r w7 ⟨rfl, hb7⟩
        have B7 : Box w7 w6.heap.size [.int .i64 qa, .int .i64 qb, .int .i64 qc, .int .i64 qd] := Box.below (Box.new _ _ _) hb7
        obtain ⟨_, _, _, _, _, _, _, _, _⟩ := B7.four
        have T7 : Below w.heap.size w w7 := by repeat (first | with_reducible exact own_refl _ | with_reducible assumption | with_reducible apply own_alloc | with_reducible apply own_drewN | with_reducible apply own_drew | ((with_reducible refine own_setCell ?_ ?_ _); rotate_left; focus (first | (simp; done) | (simp; omega))) | (with_reducible (refine own_trans ?_ (by assumption))))
        go_wp2_with fail
        refine (HRU.out _ (Rd.below hid T7)).mono ?_
        rintro r w8 ⟨v, rfl, hG, hb8⟩
        go_wp2
        go_ret3
        exact ⟨v, rfl, hG.low (Nat.le_trans T7.size (Nat.le_succ _)), own_trans T7 hb8⟩
      · have e1 : qa = -N.a := congrArg M4.a hq
        have e2 : qb = -N.b := congrArg M4.b hq
        have e3 : qc = -N.c := congrArg M4.c hq
        have e4 : qd = -N.d := congrArg M4.d hq
        obtain ⟨na, nb, nc, nd⟩ := N
        simp only at e1 e2 e3 e4
        have hd1 := pos_d HP.out
        have hr : posB qa qb qc qd = false := by
          unfold posB
          rw [decide_eq_false_iff_not]
          simp only at hd1
          omega
        have HPI := Lib.hid (fun w => implPos_is false qa qb qc qd w hr)
        have HNG := Lib.hid (fun w => fwNeg qa qb qc qd HEQ.out.1 HEQ.out.2.1 HEQ.out.2.2.1 HEQ.out.2.2.2 w)
        rw [show -qa = na by omega, show -qb = nb by omega, show -qc = nc by omega, show -qd = nd by omega] at HNG
        have HRU := Lib.hid (fun w hi => implRuns_any (msr na nb nc nd) na nb nc nd HP.out (Nat.le_refl _) (Nat.le_trans (pos_msr HP.out).1 (by decide)) w hi)
        have hz := T.size
        clear hr HP hd1 e1 e2 e3 e4 hq HQ HEQ
        go_wp2_with fail
        refine (HPI.out _).mono ?_
        rintro r w7 ⟨rfl, hb7⟩
        have B7 : Box w7 w6.heap.size [.int .i64 qa, .int .i64 qb, .int .i64 qc, .int .i64 qd] := Box.below (Box.new _ _ _) hb7
        obtain ⟨_, _, _, _, _, _, _, _, _⟩ := B7.four
        have T7 : Below w.heap.size w w7 := by repeat (first | with_reducible exact own_refl _ | with_reducible assumption | with_reducible apply own_alloc | with_reducible apply own_drewN | with_reducible apply own_drew | ((with_reducible refine own_setCell ?_ ?_ _); rotate_left; focus (first | (simp; done) | (simp; omega))) | (with_reducible (refine own_trans ?_ (by assumption))))
        go_wp2_with fail
        refine (HNG.out _).mono ?_
        rintro r w9 ⟨rfl, hb9⟩
        have B9 : Box w9 w6.heap.size [.int .i64 qa, .int .i64 qb, .int .i64 qc, .int .i64 qd] := Box.below B7 hb9
        obtain ⟨_, _, _, _, _, _, _, _, _⟩ := B9.four
        have T9 := own_trans T7 hb9
        go_wp2_with fail
        refine (HRU.out _ (Rd.below hid (by repeat (first | with_reducible exact own_refl _ | with_reducible assumption | with_reducible apply own_alloc | with_reducible apply own_drewN | with_reducible apply own_drew | ((with_reducible refine own_setCell ?_ ?_ _); rotate_left; focus (first | (simp; done) | (simp; omega))) | (with_reducible (refine own_trans ?_ (by assumption))))))).mono ?_
        rintro r w8 ⟨v, rfl, hG, hb8⟩
        go_wp2
        go_ret3
        exact ⟨v, rfl, hG.low (by have := T9.size; simp [World.setCell]; omega), by repeat (first | with_reducible exact own_refl _ | with_reducible assumption | with_reducible apply own_alloc | with_reducible apply own_drewN | with_reducible apply own_drew | ((with_reducible refine own_setCell ?_ ?_ _); rotate_left; focus (first | (simp; done) | (simp; omega))) | (with_reducible (refine own_trans ?_ (by assumption))))⟩
    · obtain ⟨a0, a1, a2, a3⟩ := A2
      have HQ := HN
      have HEQ := HEK
      clear A0 A1 A3 HN HEK
      generalize cand ⟨a, b, c, d⟩ 2 = q at *
      obtain ⟨qa, qb, qc, qd⟩ := q
      have a0 : w6.cell? ⟨gk, 8, none⟩ = some (.int .i64 qa) := a0
      have a1 : w6.cell? ⟨gk, 9, none⟩ = some (.int .i64 qb) := a1
      have a2 : w6.cell? ⟨gk, 10, none⟩ = some (.int .i64 qc) := a2
      have a3 : w6.cell? ⟨gk, 11, none⟩ = some (.int .i64 qd) := a3
      rcases HQ.out with hq | hq
      · subst hq
        clear HQ
        have hr : posB qa qb qc qd = true := decide_eq_true ⟨HP.out.1, HP.out.2.1, HP.out.2.2.1, HP.out.2.2.2.1⟩
        have HPI := Lib.hid (fun w => implPos_is true qa qb qc qd w hr)
        have HRU := Lib.hid (fun w hi => implRuns_any (msr qa qb qc qd) qa qb qc qd HP.out (Nat.le_refl _) (Nat.le_trans (pos_msr HP.out).1 (by decide)) w hi)
        have hz := T.size
        clear hr HP
        go_wp2_with fail
        refine (HPI.out _).mono ?_
        rintro r w7 ⟨rfl, hb7⟩
        have B7 : Box w7 w6.heap.size [.int .i64 qa, .int .i64 qb, .int .i64 qc, .int .i64 qd] := Box.below (Box.new _ _ _) hb7
        obtain ⟨_, _, _, _, _, _, _, _, _⟩ := B7.four
        have T7 : Below w.heap.size w w7 := by repeat (first | with_reducible exact own_refl _ | with_reducible assumption | with_reducible apply own_alloc | with_reducible apply own_drewN | with_reducible apply own_drew | ((with_reducible refine own_setCell ?_ ?_ _); rotate_left; focus (first | (simp; done) | (simp; omega))) | (with_reducible (refine own_trans ?_ (by assumption))))
        go_wp2_with fail
        refine (HRU.out _ (Rd.below hid T7)).mono ?_
        rintro r w8 ⟨v, rfl, hG, hb8⟩
        go_wp2
        go_ret3
        exact ⟨v, rfl, hG.low (Nat.le_trans T7.size (Nat.le_succ _)), own_trans T7 hb8⟩
      · have e1 : qa = -N.a := congrArg M4.a hq
        have e2 : qb = -N.b := congrArg M4.b hq
        have e3 : qc = -N.c := congrArg M4.c hq
        have e4 : qd = -N.d := congrArg M4.d hq
        obtain ⟨na, nb, nc, nd⟩ := N
        simp only at e1 e2 e3 e4
        have hd1 := pos_d HP.out
        have hr : posB qa qb qc qd = false := by
          unfold posB
          rw [decide_eq_false_iff_not]
          simp only at hd1
          omega
        have HPI := Lib.hid (fun w => implPos_is false qa qb qc qd w hr)
        have HNG := Lib.hid (fun w => fwNeg qa qb qc qd HEQ.out.1 HEQ.out.2.1 HEQ.out.2.2.1 HEQ.out.2.2.2 w)
        rw [show -qa = na by omega, show -qb = nb by omega, show -qc = nc by omega, show -qd = nd by omega] at HNG
        have HRU := Lib.hid (fun w hi => implRuns_any (msr na nb nc nd) na nb nc nd HP.out (Nat.le_refl _) (Nat.le_trans (pos_msr HP.out).1 (by decide)) w hi)
        have hz := T.size
        clear hr HP hd1 e1 e2 e3 e4 hq HQ HEQ
        go_wp2_with fail
        refine (HPI.out _).mono ?_
        rintro r w7 ⟨rfl, hb7⟩
        have B7 : Box w7 w6.heap.size [.int .i64 qa, .int .i64 qb, .int .i64 qc, .int .i64 qd] := Box.below (Box.new _ _ _) hb7
        obtain ⟨_, _, _, _, _, _, _, _, _⟩ := B7.four
        have T7 : Below w.heap.size w w7 := by repeat (first | with_reducible exact own_refl _ | with_reducible assumption | with_reducible apply own_alloc | with_reducible apply own_drewN | with_reducible apply own_drew | ((with_reducible refine own_setCell ?_ ?_ _); rotate_left; focus (first | (simp; done) | (simp; omega))) | (with_reducible (refine own_trans ?_ (by assumption))))
        go_wp2_with fail
        refine (HNG.out _).mono ?_
        rintro r w9 ⟨rfl, hb9⟩
        have B9 : Box w9 w6.heap.size [.int .i64 qa, .int .i64 qb, .int .i64 qc, .int .i64 qd] := Box.below B7 hb9
        obtain ⟨_, _, _, _, _, _, _, _, _⟩ := B9.four
        have T9 := own_trans T7 hb9
        go_wp2_with fail
        refine (HRU.out _ (Rd.below hid (by repeat (first | with_reducible exact own_refl _ | with_reducible assumption | with_reducible apply own_alloc | with_reducible apply own_drewN | with_reducible apply own_drew | ((with_reducible refine own_setCell ?_ ?_ _); rotate_left; focus (first | (simp; done) | (simp; omega))) | (with_reducible (refine own_trans ?_ (by assumption))))))).mono ?_
        rintro r w8 ⟨v, rfl, hG, hb8⟩
        go_wp2
        go_ret3
        exact ⟨v, rfl, hG.low (by have := T9.size; simp [World.setCell]; omega), by repeat (first | with_reducible exact own_refl _ | with_reducible assumption | with_reducible apply own_alloc | with_reducible apply own_drewN | with_reducible apply own_drew | ((with_reducible refine own_setCell ?_ ?_ _); rotate_left; focus (first | (simp; done) | (simp; omega))) | (with_reducible (refine own_trans ?_ (by assumption))))⟩
    · obtain ⟨a0, a1, a2, a3⟩ := A3
      have HQ := HN
      have HEQ := HEK
      clear A0 A1 A2 HN HEK
      generalize cand ⟨a, b, c, d⟩ 3 = q at *
      obtain ⟨qa, qb, qc, qd⟩ := q
      have a0 : w6.cell? ⟨gk, 12, none⟩ = some (.int .i64 qa) := a0
      have a1 : w6.cell? ⟨gk, 13, none⟩ = some (.int .i64 qb) := a1
      have a2 : w6.cell? ⟨gk, 14, none⟩ = some (.int .i64 qc) := a2
      have a3 : w6.cell? ⟨gk, 15, none⟩ = some (.int .i64 qd) := a3
      rcases HQ.out with hq | hq
      · subst hq
        clear HQ
        have hr : posB qa qb qc qd = true := decide_eq_true ⟨HP.out.1, HP.out.2.1, HP.out.2.2.1, HP.out.2.2.2.1⟩
        have HPI := Lib.hid (fun w => implPos_is true qa qb qc qd w hr)
        have HRU := Lib.hid (fun w hi => implRuns_any (msr qa qb qc qd) qa qb qc qd HP.out (Nat.le_refl _) (Nat.le_trans (pos_msr HP.out).1 (by decide)) w hi)
        have hz := T.size
        clear hr HP
        go_wp2_with fail
        refine (HPI.out _).mono ?_
        rintro r w7 ⟨rfl, hb7⟩
        have B7 : Box w7 w6.heap.size [.int .i64 qa, .int .i64 qb, .int .i64 qc, .int .i64 qd] := Box.below (Box.new _ _ _) hb7
        obtain ⟨_, _, _, _, _, _, _, _, _⟩ := B7.four
        have T7 : Below w.heap.size w w7 := by repeat (first | with_reducible exact own_refl _ | with_reducible assumption | with_reducible apply own_alloc | with_reducible apply own_drewN | with_reducible apply own_drew | ((with_reducible refine own_setCell ?_ ?_ _); rotate_left; focus (first | (simp; done) | (simp; omega))) | (with_reducible (refine own_trans ?_ (by assumption))))
        go_wp2_with fail
        refine (HRU.out _ (Rd.below hid T7)).mono ?_
        rintro r w8 ⟨v, rfl, hG, hb8⟩
        go_wp2
        go_ret3
        exact ⟨v, rfl, hG.low (Nat.le_trans T7.size (Nat.le_succ _)), own_trans T7 hb8⟩
      · have e1 : qa = -N.a := congrArg M4.a hq
        have e2 : qb = -N.b := congrArg M4.b hq
        have e3 : qc = -N.c := congrArg M4.c hq
        have e4 : qd = -N.d := congrArg M4.d hq
        obtain ⟨na, nb, nc, nd⟩ := N
        simp only at e1 e2 e3 e4
        have hd1 := pos_d HP.out
        have hr : posB qa qb qc qd = false := by
          unfold posB
          rw [decide_eq_false_iff_not]
          simp only at hd1
          omega
        have HPI := Lib.hid (fun w => implPos_is false qa qb qc qd w hr)
        have HNG := Lib.hid (fun w => fwNeg qa qb qc qd HEQ.out.1 HEQ.out.2.1 HEQ.out.2.2.1 HEQ.out.2.2.2 w)
        rw [show -qa = na by omega, show -qb = nb by omega, show -qc = nc by omega, show -qd = nd by omega] at HNG
        have HRU := Lib.hid (fun w hi => implRuns_any (msr na nb nc nd) na nb nc nd HP.out (Nat.le_refl _) (Nat.le_trans (pos_msr HP.out).1 (by decide)) w hi)
        have hz := T.size
        clear hr HP hd1 e1 e2 e3 e4 hq HQ HEQ
        go_wp2_with fail
        refine (HPI.out _).mono ?_
        rintro r w7 ⟨rfl, hb7⟩
        have B7 : Box w7 w6.heap.size [.int .i64 qa, .int .i64 qb, .int .i64 qc, .int .i64 qd] := Box.below (Box.new _ _ _) hb7
        obtain ⟨_, _, _, _, _, _, _, _, _⟩ := B7.four
        have T7 : Below w.heap.size w w7 := by repeat (first | with_reducible exact own_refl _ | with_reducible assumption | with_reducible apply own_alloc | with_reducible apply own_drewN | with_reducible apply own_drew | ((with_reducible refine own_setCell ?_ ?_ _); rotate_left; focus (first | (simp; done) | (simp; omega))) | (with_reducible (refine own_trans ?_ (by assumption))))
        go_wp2_with fail
        refine (HNG.out _).mono ?_
        rintro r w9 ⟨rfl, hb9⟩
        have B9 : Box w9 w6.heap.size [.int .i64 qa, .int .i64 qb, .int .i64 qc, .int .i64 qd] := Box.below B7 hb9
        obtain ⟨_, _, _, _, _, _, _, _, _⟩ := B9.four
        have T9 := own_trans T7 hb9
        go_wp2_with fail
        refine (HRU.out _ (Rd.below hid (by repeat (first | with_reducible exact own_refl _ | with_reducible assumption | with_reducible apply own_alloc | with_reducible apply own_drewN | with_reducible apply own_drew | ((with_reducible refine own_setCell ?_ ?_ _); rotate_left; focus (first | (simp; done) | (simp; omega))) | (with_reducible (refine own_trans ?_ (by assumption))))))).mono ?_
        rintro r w8 ⟨v, rfl, hG, hb8⟩
        go_wp2
        go_ret3
        exact ⟨v, rfl, hG.low (by have := T9.size; simp [World.setCell]; omega), by repeat (first | with_reducible exact own_refl _ | with_reducible assumption | with_reducible apply own_alloc | with_reducible apply own_drewN | with_reducible apply own_drew | ((with_reducible refine own_setCell ?_ ?_ _); rotate_left; focus (first | (simp; done) | (simp; omega))) | (with_reducible (refine own_trans ?_ (by assumption))))⟩
end Go.Proofs.YtfgbmddmmgipnaaDoor
