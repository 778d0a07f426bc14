/- CountInRow: both sides, and the law's walk. -/
import Derived.Test.YtmlbbhhjjepmkaaRowI
import Derived.Test.YtmlbbhhjjepmkaaCirM
import Derived.Test.YtmlbbhhjjepmkaaLow
namespace Go.Proofs.Ytmlbbhhjjepmkaa
open Go.ChangeShapes Go.WideShapes Go.ChangeAt Go.RowKit Go.Shelf
attribute [local go_sem] Oper.semAt_some

/-- What CountInRow keeps between two rounds. -/
def CI (w : World) (em : Nat) (pre : List (Int × Int)) (W : World) : Prop :=
  Below w.heap.size w W ∧ em + 2 ≤ W.heap.size ∧ Box W em [(.int .i64 ((pre.length : Int)))]
def CIx (_ : Code) (_ : List (Int × Int)) (_ : World) : Prop := False
theorem rowFunC (n : Int) (w : World) :
    Calls Try.prog 13 #[(.int .i64 n)] w fun e w' => e = .returned (.func (.func 20) #[] #[.pointer (some ⟨w.heap.size, 0, none⟩)]) ∧ w' = w.alloc (.cells #[(.int .i64 n)] 2) := by
  go_enter Try.func13, Try.ntmps13
  go_wp2
  go_ret
  exact ⟨rfl, rfl⟩
theorem rowAll_size {n : Int} (h1 : 1 ≤ n) (h2 : n ≤ 1000) : (rowAll n).length ≤ 1000001 := by
  obtain ⟨m, rfl⟩ : ∃ m : Nat, n = (m : Int) := ⟨n.toNat, by omega⟩
  rw [← ql_len m (by omega)]
  have := ql_le m
  have h3 : m * m ≤ 1000 * 1000 := Nat.mul_le_mul (by omega) (by omega)
  omega

set_option maxRecDepth 100000 in
set_option maxHeartbeats 4000000 in
theorem implCir_yes (n : Int) (h1 : 1 ≤ n) (h2 : n ≤ 1000) (r : Int) (hr : ((rowAll n).length : Int) = r) (w : World) :
    Calls Try.prog 6 #[(.int .i64 n)] w fun e w' => e = .returned (.tuple #[(.int .i64 r), (.int .i64 0)]) ∧ Below w.heap.size w w' := by
  have hlen := rowAll_size h1 h2
  have HR := Lib.hid hr
  clear hr
  have q1 : ¬ n < 1 := by omega
  have q2 : ¬ 1000 < n := by omega
  refine (callsIn_wide (n := 3)).1 ?_
  have hro : Fence.wide.round = none := rfl
  refine callsIn_of_wp_marks Try.func6 rfl trivial ?_ hro
  simp only [Try.ntmps6, List.size_toArray, List.length_cons, List.length_nil, Nat.reduceAdd, Nat.reduceSub, Array.replicate_succ, Array.replicate_zero, List.push_toArray, List.append_toArray, List.nil_append, List.cons_append]
  gi_wp2_with fail
  refine ⟨trivial, (callsIn_wide.2 (rowFunC n _)).mono ?_⟩
  rintro e w2 ⟨rfl, rfl⟩
  gi_wp2_with fail
  obtain ⟨em, hem⟩ : ∃ em, w.heap.size = em := ⟨_, rfl⟩
  obtain ⟨W3, hW3⟩ : ∃ W3, (w.alloc (.cells #[(.int .i64 0)] 2)).alloc (.cells #[(.int .i64 n)] 2) = W3 := ⟨_, rfl⟩
  have hs3 : W3.heap.size = em + 2 := by rw [← hW3]; simp [hem]
  have T3 : Below w.heap.size w W3 := by rw [← hW3]; repeat (first | with_reducible exact own_refl _ | with_reducible assumption | with_reducible apply own_alloc | with_reducible apply own_drewN | with_reducible apply own_drew | ((with_reducible refine own_setCell ?_ ?_ _); rotate_left; focus (first | (simp; done) | (simp; omega))) | (with_reducible (refine own_trans ?_ (by assumption))))
  have CR : Box W3 (em + 1) [(.int .i64 n)] := by rw [← hW3, ← hem]; exact Box.newAt (by simp) _ _
  have I3 : CI w em [] W3 := by
    refine ⟨T3, by omega, ?_⟩
    rw [← hW3, ← hem]; exact Box.alloc (Box.new _ _ _) _
  rw [hW3, hem]
  clear hW3
  have OI : OwnC W3.heap.size (W3.heap.size + 4) (CI w em) := by
    rintro s X Y row ⟨h1, h2, h3⟩ hg hr
    rw [hs3] at hr
    exact ⟨below_ownC h1 hg hr (by omega) (by omega), Nat.le_trans h2 hg.size, h3.ownC hg hr (by omega)⟩
  refine rangeC (gf := 20) (lb := #[.pointer (some ⟨em + 1, 0, none⟩)]) rfl (fun _ _ => by kernel_rfl)
    (rowSeq n h1 h2 (em + 1) (fun k => k = em + 1) rfl W3 CR) (Below.refl _ _) (fun k hk => by omega) (fun _ => rfl)
    (CI w em) CIx OI ?hIx I3 (fun _ a' _ => ∃ (u0 u1 u2 u3 u5 u6 u7 u8 u9 u10 u11 u12 u13 u14 u15 u16 : Value), a' = { tmps := #[u0, u1, u2, u3, .pointer (some ⟨em, 0, none⟩), u5, u6, u7, u8, u9, u10, u11, u12, u13, u14, u15, u16], defers := [] }) ?hAx ?assign ?body ?done ?stop
  case hIx =>
    rintro c s X Y row h hg hr
    exact h.elim
  case hAx =>
    rintro x s X Y row h hg hr
    exact h
  case assign =>
    rintro l pre x W K hI hz hK
    simp only [encF]
    gi_wp2
    refine hK _ _ (KeepC.refl _) hI ?_
    simp
  case body =>
    rintro l pre x a' W hI ⟨u0, u1, u2, u3, u5, u6, u7, u8, u9, u10, u11, u12, u13, u14, u15, u16, rfl⟩ hz hnx
    obtain ⟨T, hsz, XM⟩ := hI
    obtain ⟨_, hm0, hm1⟩ := XM.one
    have hpl : pre.length ≤ 1000001 := by
      obtain ⟨_, _, h⟩ := hnx
      have := h.pre.length_le
      rw [List.length_append] at this; omega
    clear hnx
    gi_wp2
    have hne : ∀ r, some r = some em → ¬ (r = em + 1 ∨ (em + 2 ≤ r ∧ r < em + 2 + 4)) := fun r hr => by simp at hr; omega
    refine ⟨KeepC.grown (grownBy_set _ _ _) fun r e => by have := hne r e.symm; rw [hs3]; exact this, own_setCell T (by dsimp only; omega) _, by simpa using hsz, ?_⟩
    rw [List.length_append, List.length_singleton, Int.natCast_add]
    exact Box.set XM 0 (by simp) _
  case done =>
    rintro ys W rfl hI hD
    obtain ⟨T, hsz, XM⟩ := hI
    obtain ⟨_, _, _⟩ := XM.one
    rw [HR.out] at *
    gi_wp2
    rw [hs3] at hD
    refine ⟨by simp, .inl ⟨_, _, rfl, run_takeDeferred hD, ?_⟩⟩
    exact ⟨_, by simp [results, Try.results6, go_sem], rfl, by have := T.grown (grownBy_putObj' W (em + 2) (.deferred none)) T.size (fun k e => by cases e; omega); rwa [hem] at this⟩
  case stop =>
    rintro c pre W hpre h hD
    exact h.elim
set_option maxHeartbeats 1000000 in
theorem implCir_no (n : Int) (h : ¬ (1 ≤ n ∧ n ≤ 1000)) (w : World) : Calls Try.prog 6 #[(.int .i64 n)] w fun e w' => e = .returned (.tuple #[(.int .i64 0), (.int .i64 2)]) ∧ Below w.heap.size w w' := by
  rcases (show n < 1 ∨ 1000 < n by omega) with hn | hn
  all_goals
    clear h
    go_enter Try.func6, Try.ntmps6
    go_wp2
    go_ret2
    exact ⟨rfl, by repeat (first | with_reducible exact own_refl _ | with_reducible assumption | with_reducible apply own_alloc | with_reducible apply own_drewN | with_reducible apply own_drew | ((with_reducible refine own_setCell ?_ ?_ _); rotate_left; focus (first | (simp; done) | (simp; omega))) | (with_reducible (refine own_trans ?_ (by assumption))))⟩
theorem inR1000 (r : Bool) (n : Int) (h : inR n 1 1000 = r) (w : World) : Calls Try.prog 11 #[(.int .i64 n), (.int .i64 1), (.int .i64 1000)] w fun e w' => e = .returned (.bool r) ∧ w = w' := l01In_is r n 1 1000 h w
set_option maxHeartbeats 1000000 in
theorem specCir_no (n : Int) (h : inR n 1 1000 = false) (w : World) : Calls Try.prog 5 #[(.int .i64 n)] w fun e w' => e = .returned (.tuple #[(.int .i64 0), (.int .i64 2)]) ∧ Below w.heap.size w w' := by
  have H := Lib.hid h
  clear h
  go_enter Try.func5, Try.ntmps5
  go_wp2_with fail
  refine (inR1000 false _ H.out _).mono ?_
  rintro e w1 ⟨rfl, rfl⟩
  go_wp2
  go_ret2
  exact ⟨rfl, by repeat (first | with_reducible exact own_refl _ | with_reducible assumption | with_reducible apply own_alloc | with_reducible apply own_drewN | with_reducible apply own_drew | ((with_reducible refine own_setCell ?_ ?_ _); rotate_left; focus (first | (simp; done) | (simp; omega))) | (with_reducible (refine own_trans ?_ (by assumption))))⟩
theorem gcd_isC (g x y : Int) (hg : (Int.gcd x y : Int) = g) (hx : -4000000000000000000 ≤ x ∧ x ≤ 4000000000000000000) (hy : -4000000000000000000 ≤ y ∧ y ≤ 4000000000000000000) (w : World) :
    Calls Try.prog 12 #[(.int .i64 x), (.int .i64 y)] w fun e w' => e = .returned (.int .i64 g) ∧ w = w' := l01Gcd_is g x y hg hx hy w
theorem plq_next (q : Int) (k : Nat) (b : Bool) (hb : decide (Int.gcd ((k + 1 : Nat) : Int) q = 1) = b) : (pl q (k + 1)).length = (pl q k).length + (if b then 1 else 0) := by
  rw [pl_next, ← hb]
  by_cases h : Int.gcd ((k + 1 : Nat) : Int) q = 1
  · rw [if_pos h, decide_eq_true h]; rfl
  · rw [if_neg h, decide_eq_false h]; rfl
set_option maxRecDepth 100000 in
set_option maxHeartbeats 4000000 in
theorem specCir_yes (m : Nat) (h1 : 1 ≤ m) (h2 : m ≤ 1000) (r : Int) (hr : ((ql m).length : Int) = r) (w : World) : Calls Try.prog 5 #[(.int .i64 ((m : Int)))] w fun e w' => e = .returned (.tuple #[(.int .i64 r), (.int .i64 0)]) ∧ Below w.heap.size w w' := by
  have H := Lib.hid (show inR (m : Int) 1 1000 = true from decide_eq_true ⟨by omega, by omega⟩)
  have HR := Lib.hid hr
  clear hr
  go_enter Try.func5, Try.ntmps5
  go_wp2_with fail
  refine (inR1000 true _ H.out _).mono ?_
  rintro e w1 ⟨rfl, rfl⟩
  go_wp2
  go_loopw [4, 5] (fun c q wr => ∃ k : Nat, k ≤ m ∧ c = (.int .i64 (((ql k).length : Int))) ∧ q = (.int .i64 (((k + 1 : Nat) : Int))) ∧ Below w.heap.size w wr) (fun _ q _ => m + 1 - (intOf q).toNat)
  case atStart => exact ⟨0, Nat.zero_le _, rfl, rfl, own_refl _⟩
  case round =>
    obtain ⟨k, hk, rfl, rfl, T⟩ := hrel
    obtain ⟨c0, hc0⟩ : ∃ c0 : Nat, (ql k).length = c0 := ⟨_, rfl⟩
    have hcb : c0 ≤ 1000001 := by
      have := ql_le k
      have h3 : k * k ≤ 1000 * 1000 := Nat.mul_le_mul (by omega) (by omega)
      omega
    have HC := Lib.hid hc0
    rw [hc0]
    clear hc0
    obtain ⟨q, hq⟩ : ∃ q : Int, ((k + 1 : Nat) : Int) = q := ⟨_, rfl⟩
    have HQ := Lib.hid hq
    rw [hq]
    by_cases hlt : k < m
    · have hqm : q ≤ (m : Int) := by omega
      have hqb : 1 ≤ q ∧ q ≤ 1000 := by omega
      clear hq
      go_wp2
      go_loopw [4, 6] (fun c p wr => ∃ j : Nat, j ≤ k + 1 ∧ c = (.int .i64 (((c0 + (pl q j).length : Nat) : Int))) ∧ p = (.int .i64 (((j + 1 : Nat) : Int))) ∧ Below w.heap.size w wr) (fun _ p _ => k + 2 - (intOf p).toNat)
      case atStart => exact ⟨0, Nat.zero_le _, rfl, rfl, T⟩
      case round =>
        obtain ⟨j, hj, rfl, rfl, T2⟩ := hrel
        obtain ⟨c1, hc1⟩ : ∃ c1 : Nat, c0 + (pl q j).length = c1 := ⟨_, rfl⟩
        have hc1b : c1 ≤ 1002001 := by
          have := pl_len q j
          omega
        have HC1 := Lib.hid hc1
        rw [hc1]
        clear hc1
        obtain ⟨p, hp⟩ : ∃ p : Int, ((j + 1 : Nat) : Int) = p := ⟨_, rfl⟩
        have HP := Lib.hid hp
        have hpb : 1 ≤ p ∧ p ≤ 1002 := by omega
        rw [hp]
        by_cases hlt2 : j < k + 1
        · have hpq : p ≤ q := by have := HQ.out; omega
          clear hp
          obtain ⟨g, hg⟩ : ∃ g : Int, (Int.gcd p q : Int) = g := ⟨_, rfl⟩
          have HG := Lib.hid hg
          by_cases hone : g = 1
          · have HN := Lib.hid (plq_next q j true (decide_eq_true (by rw [HP.out]; omega)))
            clear hg
            have hone' : (g == 1) = true := by simpa using hone
            clear hone
            go_wp2_with fail
            refine (gcd_isC g _ _ HG.out (by omega) (by omega) _).mono ?_
            rintro e w3 ⟨rfl, rfl⟩
            go_wp2
            go_roundw
            case rel => exact ⟨j + 1, by omega, by rw [HN.out, ← Nat.add_assoc, HC1.out]; go_num, by rw [← HP.out]; go_num, T2⟩
            case measure => have := HP.out; simp [intOf]; omega
          · have HN := Lib.hid (plq_next q j false (decide_eq_false (by rw [HP.out]; omega)))
            clear hg
            have hone' : (g == 1) = false := by simpa using hone
            clear hone
            go_wp2_with fail
            refine (gcd_isC g _ _ HG.out (by omega) (by omega) _).mono ?_
            rintro e w3 ⟨rfl, rfl⟩
            go_wp2
            go_roundw
            case rel => exact ⟨j + 1, by omega, by rw [HN.out, ← Nat.add_assoc, HC1.out]; rfl, by rw [← HP.out]; go_num, T2⟩
            case measure => have := HP.out; simp [intOf]; omega
        · have HE := Lib.hid (show (ql (k + 1)).length = c1 by
            rw [ql, List.length_append, HC.out, HQ.out, ← HC1.out, show j = k + 1 by omega])
          have hpq : q < p := by have := HQ.out; omega
          clear hp
          go_wp2
          go_roundw
          case rel => exact ⟨k + 1, by omega, by rw [HE.out], by rw [← HQ.out]; go_num, T2⟩
          case measure => have := HQ.out; simp [intOf]; omega
    · have HE := Lib.hid (show (c0 : Int) = r by rw [← HR.out, ← HC.out, show k = m by omega])
      have hqm : (m : Int) < q := by omega
      clear hq
      go_wp2
      go_ret2
      exact ⟨by rw [HE.out]; rfl, T⟩
set_option maxHeartbeats 1000000 in
theorem lawCountInRow_of (n r k : Int)
    (hs : ∀ w : World, Calls Try.prog 5 #[(.int .i64 n)] w fun e w' => e = .returned (.tuple #[(.int .i64 r), (.int .i64 k)]) ∧ Below w.heap.size w w')
    (hi : ∀ w : World, Calls Try.prog 6 #[(.int .i64 n)] w fun e w' => e = .returned (.tuple #[(.int .i64 r), (.int .i64 k)]) ∧ Below w.heap.size w w') (w : World) :
    Calls Try.prog 3 #[(.int .i64 n)] w fun e w' => e = .returned (.bool true) ∧ Below w.heap.size w w' := by
  have HS := Lib.hid hs
  have HI := Lib.hid hi
  clear hs hi
  go_enter Try.func3, Try.ntmps3
  go_wp2_with fail
  refine (HS.out _).mono ?_
  rintro e w1 ⟨rfl, hb1⟩
  go_wp2_with fail
  refine (HI.out _).mono ?_
  rintro e w2 ⟨rfl, hb2⟩
  go_wp2
  go_ret
  exact ⟨rfl, by repeat (first | with_reducible exact own_refl _ | with_reducible assumption | with_reducible apply own_alloc | with_reducible apply own_drewN | with_reducible apply own_drew | ((with_reducible refine own_setCell ?_ ?_ _); rotate_left; focus (first | (simp; done) | (simp; omega))) | (with_reducible (refine own_trans ?_ (by assumption))))⟩
theorem lawCountInRow_walk (n : Int) (_ : I64 n) (w : World) :
    Calls Try.prog 3 #[(.int .i64 n)] w fun e w' => e = .returned (.bool true) ∧ Below w.heap.size w w' := by
  by_cases h : 1 ≤ n ∧ n ≤ 1000
  · obtain ⟨m, rfl⟩ : ∃ m : Nat, n = (m : Int) := ⟨n.toNat, by omega⟩
    exact lawCountInRow_of m _ 0 (fun w => specCir_yes m (by omega) (by omega) _ rfl w) (fun w => implCir_yes m h.1 h.2 _ (by rw [ql_len m (by omega)]) w) w
  · exact lawCountInRow_of n 0 2 (fun w => specCir_no n (decide_eq_false h) w) (fun w => implCir_no n h w) w
end Go.Proofs.Ytmlbbhhjjepmkaa
