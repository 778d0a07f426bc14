/- spec.FractionOfContinued: contract; and the law's walk. -/
import Derived.Test.YtpmifhjbngocmaaFoc
import Derived.Test.YtpmifhjbngocmaaLoFractionOfContinued
namespace Go.Proofs.Ytpmifhjbngocmaa
open Go.ChangeShapes Go.WideShapes Go.ChangeAt Go.RowKit

theorem flatQ_get : ∀ (ps : List (Int × Int)) (k : Nat), k < ps.length → (flatQ ps).getD (2 * k) 0 = (ps.getD k (0, 0)).1 ∧ (flatQ ps).getD (2 * k + 1) 0 = (ps.getD k (0, 0)).2
  | p :: r, 0, _ => by simp [flatQ, List.getD]
  | p :: r, k + 1, h => by
    have := flatQ_get r k (by simpa using h)
    rw [show 2 * (k + 1) = 2 * k + 2 by omega, show 2 * k + 2 + 1 = 2 * k + 1 + 2 by omega]
    simpa [flatQ, List.getD] using this
theorem lastQ_get (ps : List (Int × Int)) (n : Nat) (h : ps.length = n + 1) : lastQ ps = ps.getD n (0, 0) := by
  unfold lastQ
  rw [List.getLast?_eq_getElem?, h]
  simp [List.getD]
theorem inR_is (r : Bool) (x : Int) (h : inR x 1 1000000000 = r) (w : World) : Calls Try.prog 24 #[(.int .i64 x), (.int .i64 1), (.int .i64 1000000000)] w fun e w' => e = .returned (.bool r) ∧ w = w' := l01In_is r x 1 1000000000 h w
set_option maxHeartbeats 1000000 in
theorem specFoc_len (a : Option Addr) (cap : Nat) (xs : List Int) (hn : ¬ (1 ≤ xs.length ∧ xs.length ≤ 60)) (hn' : xs.length ≤ 1048576) (w : World) :
    Calls Try.prog 11 #[.slice a xs.length cap] w fun e w' => e = .returned (.tuple #[(.agg #[.int .i64 0, .int .i64 0]), (.int .i64 2)]) ∧ Below w.heap.size w w' := by
  rcases (show xs.length = 0 ∨ 60 < xs.length by omega) with h | h
  · rw [h]
    go_enter Try.func11, Try.ntmps11
    go_wp2
    exact bodyPost_ret (v := .tuple #[(.agg #[.int .i64 0, .int .i64 0]), (.int .i64 2)]) (by simp [results, Try.results11, go_sem]) rfl ⟨rfl, by repeat (first | with_reducible exact own_refl _ | with_reducible assumption | with_reducible apply own_alloc | with_reducible apply own_drewN | with_reducible apply own_drew | ((with_reducible refine own_setCell ?_ ?_ _); rotate_left; focus (first | (simp; done) | (simp; omega))) | (with_reducible (refine own_trans ?_ (by assumption))))⟩
  · have h1 : (60 : Int) < (xs.length : Int) := by omega
    have h2 : ¬ ((xs.length : Int) < 1) := by omega
    go_enter Try.func11, Try.ntmps11
    go_wp2
    exact bodyPost_ret (v := .tuple #[(.agg #[.int .i64 0, .int .i64 0]), (.int .i64 2)]) (by simp [results, Try.results11, go_sem]) rfl ⟨rfl, by repeat (first | with_reducible exact own_refl _ | with_reducible assumption | with_reducible apply own_alloc | with_reducible apply own_drewN | with_reducible apply own_drew | ((with_reducible refine own_setCell ?_ ?_ _); rotate_left; focus (first | (simp; done) | (simp; omega))) | (with_reducible (refine own_trans ?_ (by assumption))))⟩
set_option maxRecDepth 100000 in
set_option maxHeartbeats 4000000 in
theorem specFoc_is (n : Nat) (xs : List Int) (hl : xs.length = n + 1) (h2 : n ≤ 59) (b off cap : Nat) (r0 r1 kd : Int)
    (hres : (¬ contP xs ∧ r0 = 0 ∧ r1 = 0 ∧ kd = 2) ∨ (contP xs ∧ (cvs xs).all okQ = true ∧ (lastQ (cvs xs)).1 = r0 ∧ (lastQ (cvs xs)).2 = r1 ∧ kd = 0) ∨ (contP xs ∧ (cvs xs).all okQ = false ∧ r0 = 0 ∧ r1 = 0 ∧ kd = 3)) (w : World)
    (hb : b < w.heap.size) (hc : ∀ k, k < n + 1 → w.cell? ⟨b, off + k, none⟩ = some (.int .i64 (xs.getD k 0))) :
    Calls Try.prog 11 #[.slice (some ⟨b, off, none⟩) (n + 1) cap] w fun e w' => e = .returned (.tuple #[(.agg #[.int .i64 r0, .int .i64 r1]), (.int .i64 kd)]) ∧ Below w.heap.size w w' := by
  have Z : Box (w.alloc (.cells #[.int .i64 0, .int .i64 0] 31)) w.heap.size [.int .i64 0, .int .i64 0] := Box.new _ _ _
  have TZ : Below w.heap.size w (w.alloc (.cells #[.int .i64 0, .int .i64 0] 31)) := own_alloc (own_refl _) _
  obtain ⟨x0, hx0⟩ : ∃ x, xs.getD 0 0 = x := ⟨_, rfl⟩
  have c0 : w.cell? ⟨b, off, none⟩ = some (.int .i64 x0) := by have := hc 0 (by omega); rwa [hx0] at this
  have c0' : (w.alloc (.cells #[.int .i64 0, .int .i64 0] 31)).cell? ⟨b, off, none⟩ = some (.int .i64 x0) := (TZ.cell (p := ⟨b, off, none⟩) hb).trans c0
  have HC : Hid (∀ k, k < n + 1 → (w.alloc (.cells #[.int .i64 0, .int .i64 0] 31)).cell? ⟨b, off + k, none⟩ = some (.int .i64 (xs.getD k 0))) := Lib.hid fun k hk => (TZ.cell (p := ⟨b, off + k, none⟩) hb).trans (hc k hk)
  have HR := Lib.hid hres
  have HX0 := Lib.hid hx0
  have HL := Lib.hid hl
  clear hc hres hx0 hl
  rcases he : inW x0 1000000000 with _ | _
  · have H := Lib.hid he
    have HF : Hid (r0 = 0 ∧ r1 = 0 ∧ kd = 2) := Lib.hid (by
      have hn : ¬ contP xs := fun h => by have := h.2.2.1; rw [HX0.out, ← ent_iff, he] at this; cases this
      rcases HR.out with h | h | h
      · exact h.2
      · exact absurd h.1 hn
      · exact absurd h.1 hn)
    clear he
    go_enter Try.func11, Try.ntmps11
    go_wp2_with fail
    refine (entry_is false _ H.out _).mono ?_
    rintro e w1 ⟨rfl, rfl⟩
    go_wp2
    exact bodyPost_ret (v := .tuple #[(.agg #[.int .i64 0, .int .i64 0]), (.int .i64 2)]) (by simp [results, Try.results11, go_sem]) rfl ⟨by rw [HF.out.1, HF.out.2.1, HF.out.2.2], by repeat (first | with_reducible exact own_refl _ | with_reducible assumption | with_reducible apply own_alloc | with_reducible apply own_drewN | with_reducible apply own_drew | ((with_reducible refine own_setCell ?_ ?_ _); rotate_left; focus (first | (simp; done) | (simp; omega))) | (with_reducible (refine own_trans ?_ (by assumption))))⟩
  have H := Lib.hid he
  have HE : Hid (Ent (xs.getD 0 0)) := Lib.hid (by rw [HX0.out]; exact ent_iff.1 he)
  clear he
  go_enter Try.func11, Try.ntmps11
  go_wp2_with fail
  refine (entry_is true _ H.out _).mono ?_
  rintro e w1 ⟨rfl, rfl⟩
  generalize w.alloc (.cells #[.int .i64 0, .int .i64 0] 31) = wz at *
  obtain ⟨_, _, _, _, _⟩ := Z.two
  go_wp2
  go_loop [4] (fun i => ∃ k : Nat, 1 ≤ k ∧ k ≤ n + 1 ∧ i = (.int .i64 k) ∧ Hid (∀ j, 1 ≤ j → j < k → 1 ≤ xs.getD j 0 ∧ xs.getD j 0 ≤ 1000000000 ∧ (j = n → xs.getD j 0 ≠ 1))) (fun i => n + 1 - (intOf i).toNat)
  case atStart => exact ⟨1, Nat.le_refl _, by omega, rfl, Lib.hid fun j h1 h2 => by omega⟩
  case round =>
    obtain ⟨k, hk1, hk, rfl, HK⟩ := hrel
    have notP : ¬ contP xs → r0 = 0 ∧ r1 = 0 ∧ kd = 2 := fun hn => by
      rcases HR.out with h | h | h
      · exact h.2
      · exact absurd h.1 hn
      · exact absurd h.1 hn
    by_cases hlt : k < n + 1
    · obtain ⟨x, hx⟩ : ∃ x, xs.getD k 0 = x := ⟨_, rfl⟩
      have ck := HC.out k hlt
      rw [hx] at ck
      rcases hi : inR x 1 1000000000 with _ | _
      · have HI := Lib.hid hi
        have HF : Hid (r0 = 0 ∧ r1 = 0 ∧ kd = 2) := Lib.hid (notP fun h => by
          have h1 := h.2.2.2.1 k hk1 (by rw [HL.out]; omega)
          rw [hx] at h1
          have : inR x 1 1000000000 = true := decide_eq_true h1
          rw [hi] at this; cases this)
        clear hi hx notP
        go_wp2_with fail
        refine (inR_is false _ HI.out _).mono ?_
        rintro e w1 ⟨rfl, rfl⟩
        obtain ⟨_, d0, d1, _, _⟩ := (Z.put2 (.int .i64 0) (.int .i64 0)).two
        go_wp2
        exact bodyPost_ret (v := .tuple #[(.agg #[.int .i64 0, .int .i64 0]), (.int .i64 2)]) (by simp [results, Try.results11, go_sem, d0, d1]) rfl ⟨by rw [HF.out.1, HF.out.2.1, HF.out.2.2], by repeat (first | with_reducible exact own_refl _ | with_reducible assumption | with_reducible apply own_alloc | with_reducible apply own_drewN | with_reducible apply own_drew | ((with_reducible refine own_setCell ?_ ?_ _); rotate_left; focus (first | (simp; done) | (simp; omega))) | (with_reducible (refine own_trans ?_ (by assumption))))⟩
      have HI := Lib.hid hi
      have HB : Hid (1 ≤ x ∧ x ≤ 1000000000) := Lib.hid (of_decide_eq_true hi)
      rcases (show k = n ∨ k < n by omega) with hkn | hkn
      · have hkn' : ((k : Int) == (n : Int)) = true := by simp; omega
        by_cases h1 : x = 1
        · have HF : Hid (r0 = 0 ∧ r1 = 0 ∧ kd = 2) := Lib.hid (notP fun h => by
            have := h.2.2.2.2 (by rw [HL.out]; omega)
            rw [HL.out, Nat.add_sub_cancel, ← hkn, hx] at this
            exact this h1)
          have h1' : (x == 1) = true := by simpa using h1
          clear hi hx notP h1 hkn
          go_wp2_with fail
          refine (inR_is true _ HI.out _).mono ?_
          rintro e w1 ⟨rfl, rfl⟩
          obtain ⟨_, d0, d1, _, _⟩ := (Z.put2 (.int .i64 0) (.int .i64 0)).two
          go_wp2
          exact bodyPost_ret (v := .tuple #[(.agg #[.int .i64 0, .int .i64 0]), (.int .i64 2)]) (by simp [results, Try.results11, go_sem, d0, d1]) rfl ⟨by rw [HF.out.1, HF.out.2.1, HF.out.2.2], by repeat (first | with_reducible exact own_refl _ | with_reducible assumption | with_reducible apply own_alloc | with_reducible apply own_drewN | with_reducible apply own_drew | ((with_reducible refine own_setCell ?_ ?_ _); rotate_left; focus (first | (simp; done) | (simp; omega))) | (with_reducible (refine own_trans ?_ (by assumption))))⟩
        · have h1' : (x == 1) = false := by simpa using h1
          have HK2 : Hid (∀ j, 1 ≤ j → j < k + 1 → 1 ≤ xs.getD j 0 ∧ xs.getD j 0 ≤ 1000000000 ∧ (j = n → xs.getD j 0 ≠ 1)) := Lib.hid fun j hj1 hj2 => by
            rcases (show j < k ∨ j = k by omega) with h | h
            · exact HK.out j hj1 h
            · rw [h, hx]; exact ⟨HB.out.1, HB.out.2, fun _ => h1⟩
          clear hi hx notP h1 hkn
          go_wp2_with fail
          refine (inR_is true _ HI.out _).mono ?_
          rintro e w1 ⟨rfl, rfl⟩
          go_wp2
          go_round
          case rel => exact ⟨k + 1, by omega, by omega, by go_num, HK2⟩
          case measure => simp [intOf]; omega
      · have hkn' : ((k : Int) == (n : Int)) = false := by simp; omega
        have HK2 : Hid (∀ j, 1 ≤ j → j < k + 1 → 1 ≤ xs.getD j 0 ∧ xs.getD j 0 ≤ 1000000000 ∧ (j = n → xs.getD j 0 ≠ 1)) := Lib.hid fun j hj1 hj2 => by
          rcases (show j < k ∨ j = k by omega) with h | h
          · exact HK.out j hj1 h
          · rw [h, hx]; exact ⟨HB.out.1, HB.out.2, fun e => by omega⟩
        clear hi hx notP
        go_wp2_with fail
        refine (inR_is true _ HI.out _).mono ?_
        rintro e w1 ⟨rfl, rfl⟩
        go_wp2
        go_round
        case rel => exact ⟨k + 1, by omega, by omega, by go_num, HK2⟩
        case measure => simp [intOf]; omega
    · have hP : contP xs := by
        refine ⟨by rw [HL.out]; omega, by rw [HL.out]; omega, HE.out, fun i h1 h2 => ?_, fun h => ?_⟩
        · rw [HL.out] at h2
          have := HK.out i h1 (by omega)
          exact ⟨this.1, this.2.1⟩
        · rw [HL.out] at h ⊢
          exact (HK.out n (by omega) (by omega)).2.2 rfl
      obtain ⟨r, hr⟩ : ∃ r, (cvs xs).all okQ = r := ⟨_, rfl⟩
      have hcv := specConv xs (by rw [HL.out]; omega) (some ⟨b, off, none⟩) cap b off (fun _ => rfl) r hr wz (fun k hk => ⟨Nat.lt_of_lt_of_le hb TZ.size, HC.out k (by rw [HL.out] at hk; exact hk)⟩)
      rw [HL.out] at hcv
      have HCV := Lib.hid hcv
      have HRR := Lib.hid hr
      have HP := Lib.hid hP
      clear hcv hr hP notP
      go_wp2_with fail
      refine HCV.out.mono ?_
      rintro e w2 ⟨⟨hr, v, rfl, hG⟩ | ⟨hr, rfl⟩, hb2⟩
      · have HF : Hid ((lastQ (cvs xs)).1 = r0 ∧ (lastQ (cvs xs)).2 = r1 ∧ kd = 0) := Lib.hid (by
          rcases HR.out with h | h | h
          · exact absurd HP.out h.1
          · exact h.2.2
          · have := h.2.1; rw [HRR.out, hr] at this; cases this)
        have hlen : (cvs xs).length = n + 1 := by rw [cvs_len, HL.out]
        obtain ⟨g1, g2⟩ := flatQ_get (cvs xs) n (by omega)
        rw [← lastQ_get _ n hlen] at g1 g2
        obtain ⟨_, _, ad, cap', rfl, hcc⟩ := hG.sl
        obtain ⟨g, rfl, _, hg, hcell⟩ := hcc (by omega)
        have e0 := (hcell (2 * n) (by omega)).1
        have e1 := (hcell (2 * n + 1) (by omega)).1
        rw [g1, HF.out.1] at e0
        rw [g2, HF.out.2.1] at e1
        rw [Nat.mul_comm] at e0 e1
        have Z2 := Z.below hb2
        obtain ⟨_, _, _, _, _⟩ := Z2.two
        clear hcell hcc hG g1 g2
        have HKD : Hid (0 = kd) := Lib.hid HF.out.2.2.symm
        go_wp2
        obtain ⟨_, d0, d1, _, _⟩ := (Z2.put2 (.int .i64 r0) (.int .i64 r1)).two
        exact bodyPost_ret (v := .tuple #[(.agg #[.int .i64 r0, .int .i64 r1]), (.int .i64 0)]) (by simp [results, Try.results11, go_sem, d0, d1]) rfl ⟨by rw [← HKD.out], by repeat (first | with_reducible exact own_refl _ | with_reducible assumption | with_reducible apply own_alloc | with_reducible apply own_drewN | with_reducible apply own_drew | ((with_reducible refine own_setCell ?_ ?_ _); rotate_left; focus (first | (simp; done) | (simp; omega))) | (with_reducible (refine own_trans ?_ (by assumption))))⟩
      · have HF : Hid (r0 = 0 ∧ r1 = 0 ∧ kd = 3) := Lib.hid (by
          rcases HR.out with h | h | h
          · exact absurd HP.out h.1
          · have := h.2.1; rw [HRR.out, hr] at this; cases this
          · exact h.2.2)
        have Z2 := Z.below hb2
        obtain ⟨_, _, _, _, _⟩ := Z2.two
        go_wp2
        obtain ⟨_, d0, d1, _, _⟩ := (Z2.put2 (.int .i64 0) (.int .i64 0)).two
        exact bodyPost_ret (v := .tuple #[(.agg #[.int .i64 0, .int .i64 0]), (.int .i64 3)]) (by simp [results, Try.results11, go_sem, d0, d1]) rfl ⟨by rw [HF.out.1, HF.out.2.1, HF.out.2.2], by repeat (first | with_reducible exact own_refl _ | with_reducible assumption | with_reducible apply own_alloc | with_reducible apply own_drewN | with_reducible apply own_drew | ((with_reducible refine own_setCell ?_ ?_ _); rotate_left; focus (first | (simp; done) | (simp; omega))) | (with_reducible (refine own_trans ?_ (by assumption))))⟩

attribute [local go_sem] Oper.semAt_some in
set_option maxRecDepth 100000 in
set_option maxHeartbeats 2000000 in
theorem implFoc_no (ad : Option Addr) (m cap : Nat) (w : World) (hc : ∀ w', Below w.heap.size w w' → Calls Try.prog 32 #[.slice ad m cap] w' fun e w'' => e = .returned (.bool false) ∧ w' = w'') :
    Calls Try.prog 13 #[.slice ad m cap] w fun e w' => e = .returned (.tuple #[(.agg #[.int .i64 0, .int .i64 0]), (.int .i64 2)]) ∧ Below w.heap.size w w' := by
  have HC := Lib.hid hc
  clear hc
  refine (callsIn_wide (n := 3)).1 ?_
  have hro : Fence.wide.round = none := rfl
  refine callsIn_of_wp_marks Try.func13 rfl trivial ?_ hro
  simp only [Try.ntmps13, List.size_toArray, List.length_cons, List.length_nil, Nat.reduceAdd, Nat.reduceSub, Array.replicate_succ, Array.replicate_zero, List.push_toArray, List.append_toArray, List.nil_append, List.cons_append]
  gi_wp2_with fail
  refine ⟨trivial, (callsIn_wide.2 (HC.out _ (by repeat (first | with_reducible exact own_refl _ | with_reducible assumption | with_reducible apply own_alloc | with_reducible apply own_drewN | with_reducible apply own_drew | ((with_reducible refine own_setCell ?_ ?_ _); rotate_left; focus (first | (simp; done) | (simp; omega))) | (with_reducible (refine own_trans ?_ (by assumption))))))).mono ?_⟩
  rintro e w1 ⟨rfl, rfl⟩
  gi_wp2
  have Z0 : Box ((w.alloc (.cells #[.int .i64 0, .int .i64 0] 31)).alloc (.cells #[(.int .i64 2)] 2)) w.heap.size [.int .i64 0, .int .i64 0] := Box.alloc (Box.new _ _ _) _
  have Z1 : Box ((w.alloc (.cells #[.int .i64 0, .int .i64 0] 31)).alloc (.cells #[(.int .i64 2)] 2)) (w.heap.size + 1) [(.int .i64 2)] := Box.newAt (by simp) _ _
  obtain ⟨_, z0, z1, _, _⟩ := Z0.two
  obtain ⟨_, z2, _⟩ := Z1.one
  exact ⟨_, by simp [results, Try.results13, go_sem, z0, z1, z2], rfl, by repeat (first | with_reducible exact own_refl _ | with_reducible assumption | with_reducible apply own_alloc | with_reducible apply own_drewN | with_reducible apply own_drew | ((with_reducible refine own_setCell ?_ ?_ _); rotate_left; focus (first | (simp; done) | (simp; omega))) | (with_reducible (refine own_trans ?_ (by assumption))))⟩
open Classical in
theorem lawFractionOfContinued_walk (xs : List Int) (ad : Option Addr) (cap : Nat) (w : World) (hr : Rs w ad xs) (_ : ∀ x ∈ xs, I64 x) (hn : xs.length ≤ 9223372036854775807) :
    Calls Try.prog 4 #[.slice ad xs.length cap] w fun e w' => e = .returned (.bool true) ∧ Below w.heap.size w w' := by
  by_cases h1 : xs.length ≤ 1048576
  · by_cases h2 : 1 ≤ xs.length ∧ xs.length ≤ 60
    · obtain ⟨n, hl⟩ : ∃ n, xs.length = n + 1 := ⟨xs.length - 1, by omega⟩
      by_cases hP : contP xs
      · rcases ho : (cvs xs).all okQ with _ | _
        · refine lawFractionOfContinued_of xs ad cap 0 0 3 h1 (fun v L U w hS hk => ?_) (fun v L U w hS hk => ?_) w hr
          · obtain ⟨g, off, rfl, hg, hc⟩ := sl_cap hS hk (by omega)
            rw [hl]
            exact specFoc_is n xs hl (by omega) g off _ 0 0 3 (.inr (.inr ⟨hP, ho, rfl, rfl, rfl⟩)) w hg (by rw [hl] at hc; exact hc)
          · obtain ⟨g, off, rfl, hg, hc⟩ := sl_cap hS hk (by omega)
            exact implFoc_yes xs h2.1 h2.2 hP g off 0 0 3 (.inr ⟨ho, rfl, rfl, rfl⟩) w hg hc
        · refine lawFractionOfContinued_of xs ad cap (lastQ (cvs xs)).1 (lastQ (cvs xs)).2 0 h1 (fun v L U w hS hk => ?_) (fun v L U w hS hk => ?_) w hr
          · obtain ⟨g, off, rfl, hg, hc⟩ := sl_cap hS hk (by omega)
            rw [hl]
            exact specFoc_is n xs hl (by omega) g off _ _ _ 0 (.inr (.inl ⟨hP, ho, rfl, rfl, rfl⟩)) w hg (by rw [hl] at hc; exact hc)
          · obtain ⟨g, off, rfl, hg, hc⟩ := sl_cap hS hk (by omega)
            exact implFoc_yes xs h2.1 h2.2 hP g off _ _ 0 (.inl ⟨ho, rfl, rfl, rfl⟩) w hg hc
      · refine lawFractionOfContinued_of xs ad cap 0 0 2 h1 (fun v L U w hS hk => ?_) (fun v L U w hS hk => ?_) w hr
        · obtain ⟨g, off, rfl, hg, hc⟩ := sl_cap hS hk (by omega)
          rw [hl]
          exact specFoc_is n xs hl (by omega) g off _ 0 0 2 (.inl ⟨hP, rfl, rfl, rfl⟩) w hg (by rw [hl] at hc; exact hc)
        · obtain ⟨g, off, rfl, hg, hc⟩ := sl_cap hS hk (by omega)
          exact implFoc_no _ _ _ w fun w' hb => isCont_is false g off xs h2.1 h2.2 ⟨fun h => (by cases h), fun h => absurd h hP⟩ w' (fun k hk => (hb.cell (p := ⟨g, off + k, none⟩) hg).trans (hc k hk))
    · refine lawFractionOfContinued_of xs ad cap 0 0 2 h1 (fun v L U w hS hk => ?_) (fun v L U w hS hk => ?_) w hr
      · obtain ⟨a, rfl⟩ := hk
        exact specFoc_len a _ xs h2 h1 w
      · obtain ⟨a, rfl⟩ := hk
        exact implFoc_no _ _ _ w fun w' _ => isCont_len a _ xs h2 h1 w'
  · exact lawFractionOfContinued_long xs ad cap h1 hn w
end Go.Proofs.Ytpmifhjbngocmaa
