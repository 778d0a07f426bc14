/- CuspsOf of the program, and the walk of its law. -/
import Derived.Test.YtajfjfgpiggekaaSrS
import Derived.Test.YtajfjfgpiggekaaLnO
namespace Go.Proofs.Ytajfjfgpiggekaa
open Go.ChangeShapes Go.WideShapes Go.ChangeAt Go.RowKit

theorem powT_one (w : World) : Calls Try.prog 74 #[(.int .i64 1)] w fun e w' => e = .returned (.agg #[.int .i64 1, .int .i64 1, .int .i64 0, .int .i64 1]) ∧ Below w.heap.size w w' := by
  go_enter Try.func74, Try.ntmps74
  go_wp2
  exact bodyPost_ret (v := (.agg #[.int .i64 1, .int .i64 1, .int .i64 0, .int .i64 1])) (by simp [results, Try.results74, go_sem]) rfl ⟨rfl, by repeat (first | with_reducible exact own_refl _ | with_reducible assumption | with_reducible apply own_alloc | with_reducible apply own_drewN | with_reducible apply own_drew | ((with_reducible refine own_setCell ?_ ?_ _); rotate_left; focus (first | (simp; done) | (simp; omega))) | (with_reducible (refine own_trans ?_ (by assumption))))⟩
theorem implCu_no (n : Int) (hn : inR n 1 60 = false) (w : World) : Calls Try.prog 38 #[(.int .i64 n)] w (RetSS [] 2 w) := by
  have HN := Lib.hid hn
  clear hn
  go_enter Try.func38, Try.ntmps38
  go_wp2_with fail
  refine (isLevel_is false _ HN.out _).mono ?_
  rintro e w2 ⟨rfl, rfl⟩
  go_wp2
  go_ret2
  exact ⟨_, rfl, GrSS.nil _ _, by repeat (first | with_reducible exact own_refl _ | with_reducible assumption | with_reducible apply own_alloc | with_reducible apply own_drewN | with_reducible apply own_drew | ((with_reducible refine own_setCell ?_ ?_ _); rotate_left; focus (first | (simp; done) | (simp; omega))) | (with_reducible (refine own_trans ?_ (by assumption))))⟩
theorem nxL_is (n : Int) (h1 : 1 ≤ n) (N : Nat) (hN : (ln n).length = N) : nxL n (ledL n 1 1 0 1 (ln n)) N := by
  refine ⟨by simp [ledL, hN], fun i hi => ?_⟩
  have hil : i < (ln n).length := by omega
  rw [ledL_at n 1 1 0 1 hil]
  refine ⟨?_, by have := (nxT_at h1 hil).1; omega⟩
  unfold nxT
  rw [show ((ln n).getD i (0, 0)).1 * 1 + ((ln n).getD i (0, 0)).2 * 0 = ((ln n).getD i (0, 0)).1 by omega, show ((ln n).getD i (0, 0)).1 * 1 + ((ln n).getD i (0, 0)).2 * 1 = ((ln n).getD i (0, 0)).1 + ((ln n).getD i (0, 0)).2 by omega]
theorem isP_T (n : Int) (p : Int × Int) (hp : p ∈ ln n) : isP n (p.1 * 1 + p.2 * 0) (p.1 * 1 + p.2 * 1) = true := by
  have h := (lnL_mem hp).2.2.2.2
  unfold okP isP at *
  simp only [Bool.and_eq_true] at h
  rw [show p.1 * 1 + p.2 * 0 = p.1 by omega, show p.1 * 1 + p.2 * 1 = p.1 + p.2 by omega]
  have e : Int.gcd p.1 (p.1 + p.2) = Int.gcd p.1 p.2 := by simp
  rw [e]
  exact h.1
set_option maxRecDepth 100000 in
set_option maxHeartbeats 4000000 in
theorem implCu_yes (n : Int) (hn : inR n 1 60 = true) (N : Nat) (hN : (ln n).length = N) (hN0 : 0 < N) (w : World) : Calls Try.prog 38 #[(.int .i64 n)] w (RetSS ((cys n N).map srt) 0 w) := by
  have HN := Lib.hid hn
  have hn' : 1 ≤ n ∧ n ≤ 60 := of_decide_eq_true hn
  have HL := Lib.hid (fun w => levelOf_own n hn'.1 hn'.2 w)
  have hNb : N ≤ 3600 := by rw [← hN]; exact ln_len hn'.2
  have HD := Lib.hid (fun gu ou cu w hC => led_any n 1 1 0 1 hn'.1 hn'.2 (by omega) (by omega) (by omega) (by omega) (isP_T n) gu ou cu w hC)
  have HY := Lib.hid (fun v L w hG => cyclesOf_is n N hN hNb hN0 (ledL n 1 1 0 1 (ln n)) (nxL_is n hn'.1 N hN) v L w hG)
  obtain ⟨hl, _, hrow⟩ := cys_is hn'.1 N (by omega)
  have hcs := (cus_len n N).2
  have hrows : ∀ c, c < (cys n N).length → ((cys n N).getD c []).length ≤ 3600 := fun c hc => by
    obtain ⟨q1, q2, _⟩ := hrow c (by omega)
    have h1 : ∀ x ∈ (cys n N).getD c [], x ∈ (List.range N).map (fun i : Nat => (i : Int)) := fun x hx => by
      obtain ⟨i, e, hi⟩ := q2 x hx
      exact List.mem_map.2 ⟨i, List.mem_range.2 (by omega), e.symm⟩
    have h2 := List.Nodup.length_le_of_subset q1 h1
    rw [List.length_map, List.length_range] at h2
    omega
  have HR := Lib.hid (fun c hc => And.intro (hrows c hc) (cys_some n N c hc))
  clear hn hn' hN hrow hrows
  generalize cys n N = css at *
  obtain ⟨s, hs⟩ : ∃ s, css.length = s := ⟨_, rfl⟩
  have HS := Lib.hid hs
  have hsb : s ≤ 3600 := by omega
  clear hl hcs hs
  go_enter Try.func38, Try.ntmps38
  go_wp2_with fail
  refine (isLevel_is true _ HN.out _).mono ?_
  rintro e w2 ⟨rfl, rfl⟩
  go_wp2_with fail
  refine (HL.out _).mono ?_
  rintro e w3 ⟨gu, ou, cu, rfl, _, hC3, hb3⟩
  go_wp2_with fail
  refine (powT_one _).mono ?_
  rintro e w4 ⟨rfl, hb4⟩
  have hC4 := hC3.low hb4 hC3.1
  go_wp2_with fail
  refine (HD.out _ _ _ _ hC4).mono ?_
  rintro e w5 ⟨v5, rfl, hG5, hb5⟩
  go_wp2_with fail
  refine (HY.out _ _ _ hG5).mono ?_
  rintro e w6 ⟨v6, rfl, hS6, hb6⟩
  have T6 : Below w.heap.size w w6 := own_trans hb3 (own_trans hb4 (own_trans hb5 hb6))
  have hS6 := hS6.weakZ (L' := w.heap.size) (by have := hb3.size; have := hb4.size; have := hb5.size; omega)
  clear hb3 hb4 hb5 hb6 hC3 hC4 hG5
  obtain ⟨ad, cap, hv⟩ := hS6.shape
  subst hv
  rw [HS.out]
  rw [HS.out] at hS6
  go_wp2
  go_loopw [17] (fun x wr => ∃ i : Nat, i ≤ s ∧ x = (.int .i64 ((i : Int))) ∧ GrSS wr w.heap.size (.slice ad s cap) (srtF css i) ∧ Below w.heap.size w wr) (fun x _ => s - (intOf x).toNat)
  case atStart => exact ⟨0, Nat.zero_le _, rfl, by simpa [srtF] using hS6, T6⟩
  case round =>
    obtain ⟨i, hi, rfl, hS, T⟩ := hrel
    by_cases hlt : i < s
    · have hil : i < css.length := by rw [HS.out]; exact hlt
      obtain ⟨vs, hV⟩ := hS
      have hij : i < (srtF css i).length := by rw [srtF_len]; exact hil
      obtain ⟨g, rfl, _, _, hcl⟩ := hV.rowAt rfl (by omega)
      have c0 := hcl i hij
      have hrow := hV.row hij
      rw [srtF_at hil] at hrow
      obtain ⟨hb, hne⟩ := HR.out i hil
      have hz := T.size
      have HO := Lib.hid (sort_own (vs.getD i rowZ) (css.getD i []) w.heap.size wr hrow hne (by omega) hz)
      have HT : Hid (∀ w', Gr w' w.heap.size (vs.getD i rowZ) (srt (css.getD i [])) → wr.grownBy w' (vs.getD i rowZ).ownBlock → GrSS w' w.heap.size (.slice (some ⟨g, 0, none⟩) s cap) (srtF css (i + 1))) := Lib.hid (fun w' hr hg => by
        rw [srtF_step hil]
        exact ⟨vs, hV.turn hij hr hg⟩)
      obtain ⟨ad2, cap2, e2⟩ := hrow.shape
      rw [e2] at c0 HO HT
      generalize (css.getD i []).length = m at *
      generalize srt (css.getD i []) = so at *
      clear hcl hrow hV hil hij hne e2
      go_wp2_with fail
      refine HO.out.mono ?_
      rintro e w7 ⟨rfl, hr7, hb7, hg7⟩
      go_wp2
      go_roundw
      case rel => exact ⟨i + 1, by omega, by go_num, HT.out w7 hr7 hg7, T.trans hb7⟩
      case measure => simp [intOf]; omega
    · obtain rfl : i = s := by omega
      have HE : Hid (srtF css i = css.map srt) := Lib.hid (by rw [← HS.out]; exact srtF_end css)
      go_wp2
      go_ret2
      exact ⟨_, rfl, by rw [← HE.out]; exact hS, T⟩
end Go.Proofs.Ytajfjfgpiggekaa
