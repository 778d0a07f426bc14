/- spec.ValuesOf: contracts. -/
import Derived.Test.YtfpgdbdgglbleaaVm
import Derived.Test.YtfpgdbdgglbleaaGr
import Derived.Test.YtfpgdbdgglbleaaRet
import Derived.Test.YtfpgdbdgglbleaaFm
import Derived.Lib.OwnBridge
namespace Go.Proofs.Ytfpgdbdgglbleaa
open Go.ChangeShapes Go.WideShapes Go.ChangeAt Go.RowKit

theorem Gr.put {w : World} {L g cap k : Nat} {y : Int} {xs : List Int} (h : Gr w L (.slice (some ⟨g, 0, none⟩) xs.length cap) xs) (hk : k < xs.length) :
    Gr (w.setCell ⟨g, k, none⟩ (.int .i64 y)) L (.slice (some ⟨g, 0, none⟩) xs.length cap) (xs.set k y) := by
  obtain ⟨g', cap', e, _, _, _, _, _, hH⟩ := Lib.holds_of_ownsRow (enc := Value.int .i64) h (by simp)
  injection e with e1 e2 e3
  injection e1 with e1
  injection e1 with e1
  subst e1
  have h1 := Sort.putRow_set (Value.int .i64) w g 0 xs.toArray k y (by simpa using hk)
  rw [Sort.putRow_self _ _ _ _ _ hH, Nat.zero_add] at h1
  rw [h1]
  have h2 := Lib.ownsRow_putRow (q := 0) (k := xs.length) (ys := xs.set k y) h (by simp) (Nat.le_refl _)
  rw [List.take_of_length_le (by simp)] at h2
  unfold Gr
  rw [List.length_set]
  have e3 : xs.toArray.setIfInBounds k y = (xs.set k y).toArray := by simp
  rw [e3]
  exact h2
theorem Gr.cells {w : World} {L n cap : Nat} {ad : Option Addr} {xs : List Int} (h : Gr w L (.slice ad n cap) xs) (hn : 0 < n) : ∃ g, ad = some ⟨g, 0, none⟩ ∧ L ≤ g ∧ g < w.heap.size ∧
    (∀ k, k < n → w.cell? ⟨g, k, none⟩ = some (.int .i64 (xs.getD k 0)) ∧ w.frozen? ⟨g, k, none⟩ = false) := by
  have hl := h.len
  simp only [lenOf] at hl
  obtain ⟨g', cap', e, h1, h2, _, _, _, hH⟩ := Lib.holds_of_ownsRow (enc := Value.int .i64) h (by intro e; injection e with _ e _; omega)
  injection e with e1 e2 e3
  refine ⟨g', e1, h1, h2, fun k hk => ?_⟩
  have := hH k (by simp; omega)
  rw [Nat.zero_add] at this
  have e : xs.toArray[k]! = xs.getD k 0 := by simp [List.getD, show k < xs.length by omega]
  rwa [e] at this

theorem filt2 (o : List Int) (v : Int) : (o.filter fun x => decide (x < v)).length + (o.filter fun x => decide (v < x)).length ≤ o.length := by
  induction o with
  | nil => simp
  | cons x r ih =>
    simp only [List.filter_cons, decide_eq_true_eq]
    split <;> split <;> simp <;> omega
theorem insV_len (o : List Int) (v : Int) : (insV o v).length ≤ o.length + 1 := by
  have := filt2 o v
  unfold insV
  simp
  omega
theorem allV_len (l : List Int) : ∀ o : List Int, (allV o l).length ≤ o.length + l.length := by
  induction l with
  | nil => intro o; simp [allV]
  | cons v l ih =>
    intro o
    have h1 := ih (insV o v)
    have h2 := insV_len o v
    show (allV (insV o v) l).length ≤ _
    simp
    omega
theorem shift_set {o : List Int} {j : Nat} {u : Int} (hj : j < o.length) : (o.take (j + 1) ++ u :: o.drop (j + 1)).set (j + 1) (o.getD j 0) = o.take j ++ o.getD j 0 :: o.drop j := by
  have e : o.getD j 0 = o[j] := by simp [List.getD, List.getElem?_eq_getElem hj]
  have l : (o.take (j + 1)).length = j + 1 := by simp; omega
  rw [e, List.set_append_right _ _ (by omega), l, Nat.sub_self, List.set_cons_zero, List.take_succ_eq_append_getElem hj, List.append_assoc]
  congr 1
  rw [List.drop_eq_getElem_cons hj]
  rfl
theorem last_set {o : List Int} {k : Nat} {u v : Int} (hk : k ≤ o.length) : (o.take k ++ u :: o.drop k).set k v = o.take k ++ v :: o.drop k := by
  have l : (o.take k).length = k := by simp; omega
  rw [List.set_append_right _ _ (by omega), l, Nat.sub_self, List.set_cons_zero]
theorem mid_getD {o : List Int} {j : Nat} {u : Int} (hj : j < o.length) : (o.take (j + 1) ++ u :: o.drop (j + 1)).getD j 0 = o.getD j 0 := by
  have l : (o.take (j + 1)).length = j + 1 := by simp; omega
  simp only [List.getD]
  rw [List.getElem?_append_left (by omega), List.getElem?_take_of_lt (by omega)]
theorem mid_len {o : List Int} {j : Nat} {u : Int} (hj : j ≤ o.length) : (o.take j ++ u :: o.drop j).length = o.length + 1 := by simp; omega
theorem asc_getD {o : List Int} (ho : o.Pairwise (· < ·)) {i j : Nat} (h : i < j) (hj : j < o.length) : o.getD i 0 < o.getD j 0 := by
  have := List.pairwise_iff_getElem.1 ho i j (by omega) hj h
  simpa [List.getD, List.getElem?_eq_getElem (show i < o.length by omega), List.getElem?_eq_getElem hj] using this

set_option maxHeartbeats 1000000 in
theorem specVO_no (a b c n : Int) (h : isQ a b c = false) (w : World) : Calls Try.prog 28 #[(.agg #[.int .i64 a, .int .i64 b, .int .i64 c]), (.int .i64 n)] w (RetS [] 1 w) := by
  have H := Lib.hid h
  clear h
  go_enter Try.func28, Try.ntmps28
  go_wp2_with fail
  refine (l05Is_is false _ _ _ H.out _).mono ?_
  rintro e w1 ⟨rfl, hb1⟩
  go_wp2
  go_ret2
  exact ⟨_, rfl, Sl.nil _ _ _ (Nat.le_refl _), by repeat (first | with_reducible exact own_refl _ | with_reducible assumption | with_reducible apply own_alloc | with_reducible apply own_drewN | with_reducible apply own_drew | ((with_reducible refine own_setCell ?_ ?_ _); rotate_left; focus (first | (simp; done) | (simp; omega))) | (with_reducible (refine own_trans ?_ (by assumption))))⟩
set_option maxHeartbeats 1000000 in
theorem specVO_range (a b c n : Int) (h : isQ a b c = true) (hn : inR n 0 10 = false) (w : World) : Calls Try.prog 28 #[(.agg #[.int .i64 a, .int .i64 b, .int .i64 c]), (.int .i64 n)] w (RetS [] 2 w) := by
  have H := Lib.hid h
  have HN := Lib.hid hn
  clear h hn
  go_enter Try.func28, Try.ntmps28
  go_wp2_with fail
  refine (l05Is_is true _ _ _ H.out _).mono ?_
  rintro e w1 ⟨rfl, hb1⟩
  go_wp2_with fail
  refine (l01In_is false _ _ _ HN.out _).mono ?_
  rintro e w2 ⟨rfl, rfl⟩
  go_wp2
  go_ret2
  exact ⟨_, rfl, Sl.nil _ _ _ (Nat.le_refl _), by repeat (first | with_reducible exact own_refl _ | with_reducible assumption | with_reducible apply own_alloc | with_reducible apply own_drewN | with_reducible apply own_drew | ((with_reducible refine own_setCell ?_ ?_ _); rotate_left; focus (first | (simp; done) | (simp; omega))) | (with_reducible (refine own_trans ?_ (by assumption))))⟩
set_option maxRecDepth 100000 in
set_option maxHeartbeats 8000000 in
theorem specVO_yes (a b c n : Int) (N m : Nat) (h : isQ a b c = true) (hN : (N : Int) = n) (hn : n ≤ 10) (hm : m = 2 * N + 1) (w : World) : Calls Try.prog 28 #[(.agg #[.int .i64 a, .int .i64 b, .int .i64 c]), (.int .i64 n)] w (RetS (valuesV a b c N) 0 w) := by
  have H := Lib.hid h
  have HN := Lib.hid hN
  have HM := Lib.hid (show (m : Int) = 2 * n + 1 ∧ m ≤ 21 by omega)
  have HMN := Lib.hid hm
  have hn0 : 0 ≤ n := by omega
  have HR := Lib.hid (show inR n 0 10 = true from decide_eq_true ⟨hn0, hn⟩)
  clear h hN hm
  go_enter Try.func28, Try.ntmps28
  go_wp2_with fail
  refine (l05Is_is true _ _ _ H.out _).mono ?_
  rintro e w1 ⟨rfl, hb1⟩
  have T1 : Below w.heap.size w w1 := by repeat (first | with_reducible exact own_refl _ | with_reducible assumption | with_reducible apply own_alloc | with_reducible apply own_drewN | with_reducible apply own_drew | ((with_reducible refine own_setCell ?_ ?_ _); rotate_left; focus (first | (simp; done) | (simp; omega))) | (with_reducible (refine own_trans ?_ (by assumption))))
  have B1 : Box w1 w.heap.size [.int .i64 a, .int .i64 b, .int .i64 c] := Box.below (Box.new _ _ _) hb1
  have hz1 := B1.1
  go_wp2_with fail
  refine (l01In_is true _ _ _ HR.out _).mono ?_
  rintro e w2 ⟨rfl, rfl⟩
  go_wp2
  go_loopw [6, 7] (fun v x wr => ∃ i : Nat, i ≤ N + 1 ∧ x = (.int .i64 ((i : Int))) ∧ Below w.heap.size w wr ∧ Box wr w.heap.size [.int .i64 a, .int .i64 b, .int .i64 c] ∧ w.heap.size + 1 ≤ wr.heap.size ∧ Gr wr (w.heap.size + 1) v (allV [] (rowsV a b c n 0 m i))) (fun _ x _ => (n + 1 - intOf x).toNat)
  case atStart => exact ⟨0, Nat.zero_le _, by simp, own_alloc T1 _, B1.alloc _, by simp; omega, World.ownsRow_lit w1 #[] 0 hz1 (by unfold maxLen; omega) rfl⟩
  case round =>
    obtain ⟨i, hi, rfl, T, BF, hz, hG⟩ := hrel
    obtain ⟨rs, hrs⟩ : ∃ rs, rowsV a b c n 0 m i = rs := ⟨_, rfl⟩
    have HRS := Lib.hid hrs
    rw [hrs] at hG
    have hlen : Hid (rs.length ≤ 231) := Lib.hid (by
      rw [← hrs, rowsV_len]
      have := HM.out.2
      have h2 : i * m ≤ 11 * 21 := Nat.mul_le_mul (by have := HN.out; omega) this
      omega)
    clear hrs
    obtain ⟨x, hx⟩ : ∃ x : Int, (i : Int) = x := ⟨_, rfl⟩
    have HX := Lib.hid hx
    have hxb : 0 ≤ x ∧ x ≤ 11 := by have := HN.out; omega
    rw [hx]
    clear hx
    by_cases hlt : x ≤ n
    · go_wp2
      go_loopw [6, 8] (fun v y wr => ∃ jj : Nat, jj ≤ m ∧ y = (.int .i64 (-n + (jj : Int))) ∧ Below w.heap.size w wr ∧ Box wr w.heap.size [.int .i64 a, .int .i64 b, .int .i64 c] ∧ w.heap.size + 1 ≤ wr.heap.size ∧ Gr wr (w.heap.size + 1) v (allV [] (rs ++ rowV a b c n x jj))) (fun _ y _ => (n + 1 - intOf y).toNat)
      case atStart => exact ⟨0, Nat.zero_le _, by simp, T, BF, hz, by simpa [rowV] using hG⟩
      case round =>
        obtain ⟨jj, hj, rfl, T2, B2, hz2, hG2⟩ := hrel
        obtain ⟨o, ho⟩ : ∃ o, allV [] (rs ++ rowV a b c n x jj) = o := ⟨_, rfl⟩
        have HO := Lib.hid ho
        rw [ho] at hG2
        have HA : Hid (o.Pairwise (· < ·)) := Lib.hid (by rw [← ho]; exact asc_allV _ _ List.Pairwise.nil)
        have hlen2 : o.length ≤ 500 := by
          have h1 := hlen.out
          have h2 := HM.out.2
          have h3 := allV_len (rs ++ rowV a b c n x jj) []
          rw [ho, List.length_append, rowV_len] at h3
          simp at h3
          omega
        clear ho
        obtain ⟨y, hy⟩ : ∃ y : Int, -n + (jj : Int) = y := ⟨_, rfl⟩
        have HY := Lib.hid hy
        have hyb : -10 ≤ y ∧ y ≤ 11 := by have := HM.out; omega
        rw [hy]
        clear hy
        by_cases hlt2 : y ≤ n
        · obtain ⟨v, hv⟩ : ∃ v, vq a b c x y = v := ⟨_, rfl⟩
          have HC := Lib.hid (fun w => l05Value_is v a b c x y hv (isQ_fe H.out).1 (isQ_fe H.out).2.1 (isQ_fe H.out).2.2.1 (by unfold FE; omega) (by unfold FE; omega) w)
          have HN2 : Hid (insV o v = allV [] (rs ++ rowV a b c n x (jj + 1))) := Lib.hid (by rw [rowV_succ, ← List.append_assoc, allV_snoc, HO.out, HY.out, hv])
          have hvb : -9000000000000000000 ≤ v ∧ v ≤ 9000000000000000000 := by
            have := vq_bd (isQ_fe H.out).1 (isQ_fe H.out).2.1 (isQ_fe H.out).2.2.1 (show FE x by unfold FE; omega) (show FE y by unfold FE; omega)
            rw [hv] at this
            omega
          clear hv
          obtain ⟨_, _, _, _, _, _, _⟩ := B2.three
          obtain ⟨l, hl'⟩ : ∃ l, o.length = l := ⟨_, rfl⟩
          have hl := Lib.hid hl'
          obtain ⟨ad, cap, hvs⟩ := hG2.shape
          subst hvs
          rw [hl'] at hG2 hlen2 ⊢
          clear hl'
          go_wp2_with fail
          refine (HC.out _).mono ?_
          rintro e w3 ⟨rfl, hb3⟩
          have T3 := own_trans T2 hb3
          have B3 := B2.below hb3
          have hG3 := hG2.own hb3
          have hz3 : w.heap.size + 1 ≤ w3.heap.size := Nat.le_trans hz2 hb3.size
          have hG3' := hG3
          clear hb3 B2 T2 hG2 hz2
          go_wp2
          go_loopw [10] (fun q w4 => ∃ k : Nat, q = (.int .i64 ((k : Int))) ∧ k ≤ l ∧ Hid (∀ i, k ≤ i → i < l → v < o.getD i 0) ∧ w4 = w3) (fun q _ => (intOf q).toNat)
          case atStart => exact ⟨l, by simp, Nat.le_refl _, Lib.hid (fun i h1 h2 => by omega), rfl⟩
          case round =>
            obtain ⟨k, rfl, hk, HK, rfl⟩ := hrel
            by_cases hk0 : k = 0
            · subst hk0
              have HI : Hid (insV o v = o.take 0 ++ v :: o.drop 0) := Lib.hid (insV_at (Nat.zero_le _) (fun i h => by omega) (fun i h1 h2 => HK.out i h1 (by rw [← hl.out]; exact h2)))
              go_upto_region 18 with (at_builtin; refine app64 rfl _ _ rfl (w.heap.size + 1) _ (.slice _ l cap) o v rfl hG3' _ rfl rfl (by rw [hl.out]; omega) hz3 ?_; intro v' w4 hG4 hb4)
              have T4 : Below w.heap.size w w4 := T3.trans (hb4.mono (by omega))
              have B4 := B3.low hb4 (by omega)
              have hz4 : w.heap.size + 1 ≤ w4.heap.size := Nat.le_trans hz3 hb4.size
              obtain ⟨ad4, cap4, hv4⟩ := hG4.shape
              subst hv4
              obtain ⟨l1, hl1⟩ : ∃ l1, l + 1 = l1 := ⟨_, rfl⟩
              have HL1 := Lib.hid hl1
              have hl4 : (o ++ [v]).length = l1 := by simp [hl.out, hl1]
              rw [hl4] at hG4 ⊢
              have hl1' : l < l1 ∧ l1 ≤ 501 ∧ (l1 : Int) - 1 = (l : Int) := by omega
              obtain ⟨hl2, hl3, hl5⟩ := hl1'
              have HL5 := Lib.hid hl5
              clear hl4 hl1 hl5
              obtain ⟨g4, rfl, hg4, hg4', _⟩ := hG4.cells (by omega)
              clear hb4 hG3'
              go_wp2
              go_loopw [11] (fun q w5 => ∃ (j : Nat) (u : Int), q = (.int .i64 ((j : Int))) ∧ 0 ≤ j ∧ j ≤ l ∧ Below w.heap.size w w5 ∧ Box w5 w.heap.size [.int .i64 a, .int .i64 b, .int .i64 c] ∧ w.heap.size + 1 ≤ w5.heap.size ∧ Gr w5 (w.heap.size + 1) (.slice (some ⟨g4, 0, none⟩) l1 cap4) (o.take j ++ u :: o.drop j)) (fun q _ => (intOf q).toNat)
              case atStart => exact ⟨l, v, by rw [HL5.out], by omega, Nat.le_refl _, T4, B4, hz4, by rw [← hl.out]; simpa using hG4⟩
              case round =>
                obtain ⟨j, u, rfl, hj1, hj2, T5, B5, hz5, hG5⟩ := hrel
                have hml := Lib.hid (mid_len (o := o) (u := u) (show j ≤ o.length by rw [hl.out]; exact hj2))
                obtain ⟨g5, he5, hg5, hg5', hc5⟩ := hG5.cells (by omega)
                injection he5 with he5
                injection he5 with he5
                subst he5
                have d0 : ¬ (w.heap.size = g4) := by omega
                by_cases hjk : 0 < j
                · obtain ⟨j', rfl⟩ : ∃ j', j = j' + 1 := ⟨j - 1, by omega⟩
                  have c1 := (hc5 j' (by omega)).1
                  have c2 := (hc5 (j' + 1) (by omega))
                  obtain ⟨c2, c3⟩ := c2
                  have hlo : j' < o.length := by rw [hl.out]; omega
                  rw [mid_getD hlo] at c1
                  obtain ⟨z, hz⟩ : ∃ z, o.getD j' 0 = z := ⟨_, rfl⟩
                  have HZ := Lib.hid hz
                  rw [hz] at c1
                  clear hc5 hz
                  go_wp2
                  go_roundw
                  case rel =>
                    have hp := Gr.put (k := j' + 1) (y := z) (by rw [hml.out, hl.out, HL1.out]; exact hG5) (by rw [hml.out, hl.out]; omega)
                    rw [← HZ.out, shift_set hlo, hml.out, hl.out, HL1.out, HZ.out] at hp
                    exact ⟨j', z, by simp, by omega, by omega, own_setCell T5 (by dsimp only; omega) _, B5.far d0 _, by simpa [World.setCell] using hz5, hp⟩
                  case measure => simp [intOf]
                · obtain rfl : j = 0 := by omega
                  have c2 := (hc5 0 (by omega))
                  obtain ⟨c2, c3⟩ := c2
                  clear hc5
                  go_wp2
                  go_roundw
                  case rel =>
                    have hp := Gr.put (k := 0) (y := v) (by rw [hml.out, hl.out, HL1.out]; exact hG5) (by rw [hml.out, hl.out]; omega)
                    rw [last_set (by rw [hl.out]; omega), hml.out, hl.out, HL1.out, ← HI.out] at hp
                    have h1 := HM.out
                    have h2 := HY.out
                    have el : (insV o v).length = l + 1 := by rw [HI.out]; exact (mid_len (by rw [hl.out]; omega)).trans (by rw [hl.out])
                    exact ⟨jj + 1, by omega, by simp; omega, own_setCell T5 (by dsimp only; omega) _, B5.far d0 _, by simpa [World.setCell] using hz5, HN2.out ▸ hp⟩
                  case measure => simp [intOf]; omega
            · obtain ⟨j0, rfl⟩ : ∃ j0, k = j0 + 1 := ⟨k - 1, by omega⟩
              obtain ⟨g, rfl, hg, hg', hcs⟩ := hG3.cells (by omega)
              obtain ⟨u0, hu0⟩ : ∃ u0, o.getD j0 0 = u0 := ⟨_, rfl⟩
              have c0 := (hcs j0 (by omega)).1
              rw [hu0] at c0
              have HU := Lib.hid hu0
              clear hcs hu0
              rcases Int.lt_trichotomy u0 v with huv | huv | huv
              · have HI : Hid (insV o v = o.take (j0 + 1) ++ v :: o.drop (j0 + 1)) := Lib.hid (insV_at (by rw [hl.out]; exact hk) (fun i h => by
                  by_cases e : i = j0
                  · subst e; rw [HU.out]; exact huv
                  · have := asc_getD HA.out (show i < j0 by omega) (by rw [hl.out]; omega)
                    rw [HU.out] at this; omega) (fun i h1 h2 => HK.out i h1 (by rw [← hl.out]; exact h2)))
                have huv' : ¬ v < u0 := by omega
                have huv2 : (u0 == v) = false := by rw [beq_eq_false_iff_ne]; omega
                go_upto_region 18 with (at_builtin; refine app64 rfl _ _ rfl (w.heap.size + 1) _ (.slice _ l cap) o v rfl hG3' _ rfl rfl (by rw [hl.out]; omega) hz3 ?_; intro v' w4 hG4 hb4)
                have T4 : Below w.heap.size w w4 := T3.trans (hb4.mono (by omega))
                have B4 := B3.low hb4 (by omega)
                have hz4 : w.heap.size + 1 ≤ w4.heap.size := Nat.le_trans hz3 hb4.size
                obtain ⟨ad4, cap4, hv4⟩ := hG4.shape
                subst hv4
                obtain ⟨l1, hl1⟩ : ∃ l1, l + 1 = l1 := ⟨_, rfl⟩
                have HL1 := Lib.hid hl1
                have hl4 : (o ++ [v]).length = l1 := by simp [hl.out, hl1]
                rw [hl4] at hG4 ⊢
                have hl1' : l < l1 ∧ l1 ≤ 501 ∧ (l1 : Int) - 1 = (l : Int) := by omega
                obtain ⟨hl2, hl3, hl5⟩ := hl1'
                have HL5 := Lib.hid hl5
                clear hl4 hl1 hl5
                obtain ⟨g4, rfl, hg4, hg4', _⟩ := hG4.cells (by omega)
                clear hb4 hG3'
                go_wp2
                go_loopw [11] (fun q w5 => ∃ (j : Nat) (u : Int), q = (.int .i64 ((j : Int))) ∧ (j0 + 1) ≤ j ∧ j ≤ l ∧ Below w.heap.size w w5 ∧ Box w5 w.heap.size [.int .i64 a, .int .i64 b, .int .i64 c] ∧ w.heap.size + 1 ≤ w5.heap.size ∧ Gr w5 (w.heap.size + 1) (.slice (some ⟨g4, 0, none⟩) l1 cap4) (o.take j ++ u :: o.drop j)) (fun q _ => (intOf q).toNat)
                case atStart => exact ⟨l, v, by rw [HL5.out], by omega, Nat.le_refl _, T4, B4, hz4, by rw [← hl.out]; simpa using hG4⟩
                case round =>
                  obtain ⟨j, u, rfl, hj1, hj2, T5, B5, hz5, hG5⟩ := hrel
                  have hml := Lib.hid (mid_len (o := o) (u := u) (show j ≤ o.length by rw [hl.out]; exact hj2))
                  obtain ⟨g5, he5, hg5, hg5', hc5⟩ := hG5.cells (by omega)
                  injection he5 with he5
                  injection he5 with he5
                  subst he5
                  have d0 : ¬ (w.heap.size = g4) := by omega
                  by_cases hjk : (j0 + 1) < j
                  · obtain ⟨j', rfl⟩ : ∃ j', j = j' + 1 := ⟨j - 1, by omega⟩
                    have c1 := (hc5 j' (by omega)).1
                    have c2 := (hc5 (j' + 1) (by omega))
                    obtain ⟨c2, c3⟩ := c2
                    have hlo : j' < o.length := by rw [hl.out]; omega
                    rw [mid_getD hlo] at c1
                    obtain ⟨z, hz⟩ : ∃ z, o.getD j' 0 = z := ⟨_, rfl⟩
                    have HZ := Lib.hid hz
                    rw [hz] at c1
                    clear hc5 hz
                    go_wp2
                    go_roundw
                    case rel =>
                      have hp := Gr.put (k := j' + 1) (y := z) (by rw [hml.out, hl.out, HL1.out]; exact hG5) (by rw [hml.out, hl.out]; omega)
                      rw [← HZ.out, shift_set hlo, hml.out, hl.out, HL1.out, HZ.out] at hp
                      exact ⟨j', z, by simp, by omega, by omega, own_setCell T5 (by dsimp only; omega) _, B5.far d0 _, by simpa [World.setCell] using hz5, hp⟩
                    case measure => simp [intOf]
                  · obtain rfl : j = (j0 + 1) := by omega
                    have c2 := (hc5 (j0 + 1) (by omega))
                    obtain ⟨c2, c3⟩ := c2
                    clear hc5
                    go_wp2
                    go_roundw
                    case rel =>
                      have hp := Gr.put (k := (j0 + 1)) (y := v) (by rw [hml.out, hl.out, HL1.out]; exact hG5) (by rw [hml.out, hl.out]; omega)
                      rw [last_set (by rw [hl.out]; omega), hml.out, hl.out, HL1.out, ← HI.out] at hp
                      have h1 := HM.out
                      have h2 := HY.out
                      have el : (insV o v).length = l + 1 := by rw [HI.out]; exact (mid_len (by rw [hl.out]; omega)).trans (by rw [hl.out])
                      exact ⟨jj + 1, by omega, by simp; omega, own_setCell T5 (by dsimp only; omega) _, B5.far d0 _, by simpa [World.setCell] using hz5, HN2.out ▸ hp⟩
                    case measure => simp [intOf]; omega
              · subst huv
                have HI : Hid (insV o u0 = o) := Lib.hid (insV_in HA.out (by
                  rw [← HU.out]
                  have h1 : j0 < o.length := by rw [hl.out]; omega
                  simp [List.getD, List.getElem?_eq_getElem h1]))
                go_wp2
                go_roundw
                case rel =>
                  have h1 := HM.out
                  have h2 := HY.out
                  exact ⟨jj + 1, by omega, by simp; omega, T3, B3, hz3, by rw [← HN2.out, HI.out]; exact hG3⟩
                case measure => simp [intOf]; omega
              · have HK2 : Hid (∀ i, j0 ≤ i → i < l → v < o.getD i 0) := Lib.hid (fun i h1 h2 => by
                  by_cases e : i = j0
                  · subst e; rw [HU.out]; exact huv
                  · exact HK.out i (by omega) h2)
                go_wp2
                go_roundw
                case rel => exact ⟨j0, by simp, by omega, HK2, by trivial⟩
                case measure => simp [intOf]
        · have hjm : jj = m := by have h1 := HM.out; have h2 := HY.out; omega
          go_wp2
          go_roundw
          case rel =>
            have h1 := HN.out
            have h2 := HX.out
            have e1 : o = allV [] (rowsV a b c n 0 m (i + 1)) := by rw [rowsV_succ, HRS.out, Int.zero_add, h2, ← HO.out, hjm]
            exact ⟨i + 1, by omega, by simp; omega, T2, B2, hz2, e1 ▸ hG2⟩
          case measure => simp [intOf]; omega
    · have him : i = N + 1 := by have h1 := HN.out; have h2 := HX.out; omega
      have HE : Hid (allV [] rs = valuesV a b c N) := Lib.hid (by
        unfold valuesV
        rw [← HRS.out, him, HMN.out, ← HN.out])
      obtain ⟨ad, cap, hvs⟩ := hG.shape
      subst hvs
      rw [HE.out] at hG ⊢
      go_wp2
      go_ret2
      exact ⟨_, rfl, Sl.weak hG.sl (by omega), T⟩
end Go.Proofs.Ytfpgdbdgglbleaa
