/- Equal actions: both sides. -/
import Derived.Test.YtfchfakkbdfajaaAcG
namespace Go.Proofs.Ytfchfakkbdfajaa
open Go.ChangeShapes Go.WideShapes Go.ChangeAt Go.RowKit

theorem list_eq {xs ys : List Int} (hl : xs.length = ys.length) (h : ∀ j, j < xs.length → xs.getD j 0 = ys.getD j 0) : xs = ys := by
  apply List.ext_getElem hl
  intro i h1 h2
  have := h i h1
  simpa [List.getD, h1, h2] using this
set_option maxHeartbeats 2000000 in
theorem equal64_is (u v : Value) (xs ys : List Int) (hx : xs.length ≤ 1000000) (w : World) (hu : Rl w u xs) (hv : Rl w v ys) :
    Calls Try.prog 67 #[u, v] w fun e w' => e = .returned (.bool (decide (xs = ys))) ∧ Below w.heap.size w w' := by
  obtain ⟨ad, c, rfl, ra⟩ := hu
  obtain ⟨ad', c', rfl, rb⟩ := hv
  by_cases hl : xs.length = ys.length
  · have HA := Lib.hid ra
    have HB := Lib.hid rb
    obtain ⟨n, hn⟩ : ∃ n, xs.length = n := ⟨_, rfl⟩
    have hm : ys.length = n := by omega
    have HN := Lib.hid (And.intro hn hm)
    obtain ⟨res, hr⟩ : ∃ res, decide (xs = ys) = res := ⟨_, rfl⟩
    have HR := Lib.hid hr
    rw [hr, hn, hm]
    rw [hn] at hx
    clear ra rb hl hn hm hr
    go_enter Try.func67, Try.ntmps67
    go_wp2
    go_loopw [13] (fun i wr => ∃ k : Nat, k ≤ n ∧ i = (.int .i64 ((k : Int))) ∧ Hid (∀ j, j < k → xs.getD j 0 = ys.getD j 0) ∧ Below w.heap.size w wr) (fun i _ => n - (intOf i).toNat)
    case atStart => exact ⟨0, Nat.zero_le _, rfl, Lib.hid (fun j h => absurd h (Nat.not_lt_zero _)), own_refl _⟩
    case round =>
      obtain ⟨k, hk, rfl, HJ, T⟩ := hrel
      by_cases hlt : k < n
      · obtain ⟨g, rfl, hg⟩ := HA.out (by have := HN.out.1; omega)
        obtain ⟨g', rfl, hg'⟩ := HB.out (by have := HN.out.2; omega)
        have c1 := (hg.below T).2 k (by have := HN.out.1; omega)
        have c2 := (hg'.below T).2 k (by have := HN.out.2; omega)
        by_cases e : xs.getD k 0 = ys.getD k 0
        · have HJ2 : Hid (∀ j, j < k + 1 → xs.getD j 0 = ys.getD j 0) := Lib.hid (fun j hj => by
            by_cases h2 : j < k
            · exact HJ.out j h2
            · have : j = k := by omega
              rw [this]; exact e)
          rw [← e] at c2
          generalize xs.getD k 0 = x at *
          clear hg hg' e
          go_wp2
          go_quiet (fail)
          go_wp2
          go_roundw
          case rel => exact ⟨k + 1, by omega, by go_num, HJ2, below_drewN' T _⟩
          case measure => simp [intOf]; omega
        · have HF : Hid (false = res) := Lib.hid (by
            rw [← HR.out, decide_eq_false]
            intro h
            rw [h] at e
            exact e rfl)
          generalize xs.getD k 0 = x at *
          generalize ys.getD k 0 = y at *
          clear hg hg'
          go_wp2
          go_quiet (fail)
          go_wp2
          go_ret
          exact ⟨ret_bool HF.out, below_drewN' T _⟩
      · have HF : Hid (true = res) := Lib.hid (by
          rw [← HR.out, decide_eq_true]
          exact list_eq (by have := HN.out; omega) (fun j hj => HJ.out j (by have := HN.out.1; omega)))
        go_wp2
        go_ret
        exact ⟨ret_bool HF.out, T⟩
  · have e : decide (xs = ys) = false := decide_eq_false (fun h => hl (by rw [h]))
    rw [e]
    have hl2 : ¬ (xs.length : Int) = (ys.length : Int) := by omega
    clear ra rb e hl
    generalize xs.length = n at *
    generalize ys.length = m at *
    go_enter Try.func67, Try.ntmps67
    go_wp2
    go_ret
    exact ⟨rfl, own_refl _⟩
set_option maxHeartbeats 2000000 in
theorem equals_is (u v : Value) (s t s' t' : List Int) (h1 : s.length ≤ 1000000) (h2 : t.length ≤ 1000000) (w : World) (hu : Ac w u s t) (hv : Ac w v s' t') :
    Calls Try.prog 57 #[u, v] w fun e w' => e = .returned (.bool (decide (s = s' ∧ t = t'))) ∧ Below w.heap.size w w' := by
  obtain ⟨a, b, rfl, ha, hb⟩ := hu
  obtain ⟨c, d, rfl, hc, hd⟩ := hv
  have HA := Lib.hid (fun w' (h : Below w.heap.size w w') => equal64_is a c s s' h1 w' (ha.below h) (hc.below h))
  have HB := Lib.hid (fun w' (h : Below w.heap.size w w') => equal64_is b d t t' h2 w' (hb.below h) (hd.below h))
  obtain ⟨a1, k1, rfl, _⟩ := ha
  obtain ⟨a2, k2, rfl, _⟩ := hb
  obtain ⟨a3, k3, rfl, _⟩ := hc
  obtain ⟨a4, k4, rfl, _⟩ := hd
  have hres : decide (s = s' ∧ t = t') = (decide (s = s') && decide (t = t')) := by simp
  rw [hres]
  clear hres
  generalize decide (s = s') = p at *
  generalize decide (t = t') = q at *
  generalize s.length = n1 at *
  generalize t.length = n2 at *
  generalize s'.length = n3 at *
  generalize t'.length = n4 at *
  cases p
  · go_enter Try.func57, Try.ntmps57
    go_wp2_with fail
    refine (HA.out _ (by repeat (first | with_reducible exact own_refl _ | with_reducible assumption | with_reducible apply own_alloc | with_reducible apply own_drewN | with_reducible apply own_drew | ((with_reducible refine own_setCell ?_ ?_ _); rotate_left; focus (first | (simp; done) | (simp; omega))) | (with_reducible (refine own_trans ?_ (by assumption)))))).mono ?_
    rintro e w2 ⟨rfl, hb2⟩
    have T2 : Below w.heap.size w w2 := by repeat (first | with_reducible exact own_refl _ | with_reducible assumption | with_reducible apply own_alloc | with_reducible apply own_drewN | with_reducible apply own_drew | ((with_reducible refine own_setCell ?_ ?_ _); rotate_left; focus (first | (simp; done) | (simp; omega))) | (with_reducible (refine own_trans ?_ (by assumption))))
    go_wp2
    go_ret
    exact ⟨rfl, T2⟩
  · go_enter Try.func57, Try.ntmps57
    go_wp2_with fail
    refine (HA.out _ (by repeat (first | with_reducible exact own_refl _ | with_reducible assumption | with_reducible apply own_alloc | with_reducible apply own_drewN | with_reducible apply own_drew | ((with_reducible refine own_setCell ?_ ?_ _); rotate_left; focus (first | (simp; done) | (simp; omega))) | (with_reducible (refine own_trans ?_ (by assumption)))))).mono ?_
    rintro e w2 ⟨rfl, hb2⟩
    have T2 : Below w.heap.size w w2 := by repeat (first | with_reducible exact own_refl _ | with_reducible assumption | with_reducible apply own_alloc | with_reducible apply own_drewN | with_reducible apply own_drew | ((with_reducible refine own_setCell ?_ ?_ _); rotate_left; focus (first | (simp; done) | (simp; omega))) | (with_reducible (refine own_trans ?_ (by assumption))))
    have Bw2_0 : Box w2 (w.heap.size) [.slice a1 n1 k1, .slice a2 n2 k2] := by refine Box.below ?_ hb2; repeat (first | with_reducible assumption | with_reducible exact Box.new _ _ _ | (with_reducible refine Box.newAt ?_ _ _; (simp; done)) | with_reducible apply Box.alloc | with_reducible apply Box.drewN | with_reducible apply Box.drew)
    obtain ⟨_, _, _, _, _⟩ := Bw2_0.two
    have Bw2_1 : Box w2 (w.heap.size + 1) [.slice a3 n3 k3, .slice a4 n4 k4] := by refine Box.below ?_ hb2; repeat (first | with_reducible assumption | with_reducible exact Box.new _ _ _ | (with_reducible refine Box.newAt ?_ _ _; (simp; done)) | with_reducible apply Box.alloc | with_reducible apply Box.drewN | with_reducible apply Box.drew)
    obtain ⟨_, _, _, _, _⟩ := Bw2_1.two
    go_wp2_with fail
    refine (HB.out _ T2).mono ?_
    rintro e w3 ⟨rfl, hb3⟩
    go_wp2
    go_ret
    exact ⟨ret_bool (by cases q <;> rfl), own_trans T2 hb3⟩
set_option maxHeartbeats 4000000 in
theorem l10Equal_is (u v : Value) (s t s' t' : List Int) (h2 : t.length = s.length) (h3 : s'.length ≤ 1000000) (h4 : t'.length = s'.length) (w : World) (hu : Ac w u s t) (hv : Ac w v s' t') :
    Calls Try.prog 56 #[u, v] w fun e w' => e = .returned (.bool (decide (s = s' ∧ t = t'))) ∧ Below w.heap.size w w' := by
  obtain ⟨a, b, rfl, ⟨a1, k1, rfl, r1⟩, ⟨a2, k2, rfl, r2⟩⟩ := hu
  obtain ⟨c, d, rfl, ⟨a3, k3, rfl, r3⟩, ⟨a4, k4, rfl, r4⟩⟩ := hv
  by_cases hl : s.length = s'.length
  · have HX := Lib.hid (And.intro r1 (And.intro r2 (And.intro r3 r4)))
    obtain ⟨n, hn⟩ : ∃ n, s.length = n := ⟨_, rfl⟩
    have HN : Hid (s.length = n ∧ t.length = n ∧ s'.length = n ∧ t'.length = n) := Lib.hid (by omega)
    obtain ⟨res, hr⟩ : ∃ res, decide (s = s' ∧ t = t') = res := ⟨_, rfl⟩
    have HR := Lib.hid hr
    rw [hr, HN.out.1, HN.out.2.1, HN.out.2.2.1, HN.out.2.2.2]
    have hnb : n ≤ 1000000 := by omega
    clear r1 r2 r3 r4 hl hn hr h2 h3 h4
    have B0 : Box ((w.alloc (.cells #[.slice a1 n k1, .slice a2 n k2] 27)).alloc (.cells #[.slice a3 n k3, .slice a4 n k4] 27)) w.heap.size [.slice a1 n k1, .slice a2 n k2] := (Box.new _ _ _).alloc _
    have C0 : Box ((w.alloc (.cells #[.slice a1 n k1, .slice a2 n k2] 27)).alloc (.cells #[.slice a3 n k3, .slice a4 n k4] 27)) (w.heap.size + 1) [.slice a3 n k3, .slice a4 n k4] := Box.newAt (by simp) _ _
    have T0 := own_alloc (own_alloc (own_refl w) (.cells #[.slice a1 n k1, .slice a2 n k2] 27)) (.cells #[.slice a3 n k3, .slice a4 n k4] 27)
    go_enter Try.func56, Try.ntmps56
    go_wp2
    generalize (w.alloc (.cells #[.slice a1 n k1, .slice a2 n k2] 27)).alloc (.cells #[.slice a3 n k3, .slice a4 n k4] 27) = w0 at *
    go_loopw [5] (fun i wr => ∃ k : Nat, k ≤ n ∧ i = (.int .i64 ((k : Int))) ∧ Hid (∀ j, j < k → s.getD j 0 = s'.getD j 0 ∧ t.getD j 0 = t'.getD j 0) ∧ Below w.heap.size w wr ∧ Box wr w.heap.size [.slice a1 n k1, .slice a2 n k2] ∧ Box wr (w.heap.size + 1) [.slice a3 n k3, .slice a4 n k4]) (fun i _ => n - (intOf i).toNat)
    case atStart => exact ⟨0, Nat.zero_le _, rfl, Lib.hid (fun j h => absurd h (Nat.not_lt_zero _)), T0, B0, C0⟩
    case round =>
      obtain ⟨k, hk, rfl, HJ, T, B, C⟩ := hrel
      clear T0 B0 C0 w0
      obtain ⟨-, b0, b1, -, -⟩ := B.two
      obtain ⟨-, c0, c1, -, -⟩ := C.two
      by_cases hlt : k < n
      · obtain ⟨g1, rfl, q1⟩ := HX.out.1 (by have := HN.out.1; omega)
        obtain ⟨g2, rfl, q2⟩ := HX.out.2.1 (by have := HN.out.2.1; omega)
        obtain ⟨g3, rfl, q3⟩ := HX.out.2.2.1 (by have := HN.out.2.2.1; omega)
        obtain ⟨g4, rfl, q4⟩ := HX.out.2.2.2 (by have := HN.out.2.2.2; omega)
        have d1 := (q1.below T).2 k (by have := HN.out.1; omega)
        have d2 := (q2.below T).2 k (by have := HN.out.2.1; omega)
        have d3 := (q3.below T).2 k (by have := HN.out.2.2.1; omega)
        have d4 := (q4.below T).2 k (by have := HN.out.2.2.2; omega)
        by_cases e : s.getD k 0 = s'.getD k 0
        · by_cases e2 : t.getD k 0 = t'.getD k 0
          · have HJ2 : Hid (∀ j, j < k + 1 → s.getD j 0 = s'.getD j 0 ∧ t.getD j 0 = t'.getD j 0) := Lib.hid (fun j hj => by
              by_cases h2 : j < k
              · exact HJ.out j h2
              · have : j = k := by omega
                rw [this]; exact ⟨e, e2⟩)
            rw [← e] at d3
            rw [← e2] at d4
            generalize s.getD k 0 = x at *
            generalize t.getD k 0 = y at *
            clear q1 q2 q3 q4 e e2
            go_wp2
            go_quiet (fail)
            go_wp2
            go_roundw
            case rel => exact ⟨k + 1, by omega, by go_num, HJ2, below_drewN' T _, B.drewN _, C.drewN _⟩
            case measure => simp [intOf]; omega
          · have HF : Hid (false = res) := Lib.hid (by
              rw [← HR.out, decide_eq_false]
              intro h
              rw [h.2] at e2
              exact e2 rfl)
            rw [← e] at d3
            generalize s.getD k 0 = x at *
            generalize t.getD k 0 = y at *
            generalize t'.getD k 0 = z at *
            clear q1 q2 q3 q4 e
            go_wp2
            go_quiet (fail)
            go_wp2
            go_ret
            exact ⟨ret_bool HF.out, below_drewN' T _⟩
        · have HF : Hid (false = res) := Lib.hid (by
            rw [← HR.out, decide_eq_false]
            intro h
            rw [h.1] at e
            exact e rfl)
          generalize s.getD k 0 = x at *
          generalize s'.getD k 0 = y at *
          clear q1 q2 q3 q4 d2 d4
          go_wp2
          go_quiet (fail)
          go_wp2
          go_ret
          exact ⟨ret_bool HF.out, below_drewN' T _⟩
      · have HF : Hid (true = res) := Lib.hid (by
          rw [← HR.out, decide_eq_true]
          have hN := HN.out
          exact ⟨list_eq (by omega) (fun j hj => (HJ.out j (by omega)).1), list_eq (by omega) (fun j hj => (HJ.out j (by omega)).2)⟩)
        go_wp2
        go_ret
        exact ⟨ret_bool HF.out, T⟩
  · have e : decide (s = s' ∧ t = t') = false := decide_eq_false (fun h => hl (by rw [h.1]))
    rw [e]
    have hl2 : ¬ (s.length : Int) = (s'.length : Int) := by omega
    clear r1 r2 r3 r4 e hl h2 h4
    generalize s.length = n1 at *
    generalize s'.length = n3 at *
    generalize t.length = n2 at *
    generalize t'.length = n4 at *
    go_enter Try.func56, Try.ntmps56
    go_wp2
    go_ret
    exact ⟨rfl, by repeat (first | with_reducible exact own_refl _ | with_reducible assumption | with_reducible apply own_alloc | with_reducible apply own_drewN | with_reducible apply own_drew | ((with_reducible refine own_setCell ?_ ?_ _); rotate_left; focus (first | (simp; done) | (simp; omega))) | (with_reducible (refine own_trans ?_ (by assumption))))⟩
end Go.Proofs.Ytfchfakkbdfajaa
