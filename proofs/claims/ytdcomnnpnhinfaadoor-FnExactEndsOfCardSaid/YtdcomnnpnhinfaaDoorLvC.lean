/- The codes of levels and of mixes: both sides. -/
import Derived.Test.YtdcomnnpnhinfaaDoorIlN
import Derived.Test.YtdcomnnpnhinfaaDoorIdx
import Derived.Test.YtdcomnnpnhinfaaDoorNp
import Derived.Test.YtdcomnnpnhinfaaDoorSl
import Derived.Test.YtdcomnnpnhinfaaDoorA
namespace Go.Proofs.YtdcomnnpnhinfaaDoor
open Go.ChangeShapes Go.WideShapes Go.ChangeAt Go.RowKit

/-- the index of the family 0 -/
def idx0 (n : Int) : Int := mz 999 2 n n
theorem implI0 (n : Int) (h : inR n 1 60 = true) (w : World) : Calls Tryd.prog 33 #[(.int .i64 0), (.int .i64 n)] w fun e w' => e = .returned (.tuple #[(.int .i64 (idx0 n)), (.int .i64 0)]) ∧ Below w.heap.size w w' := by
  have hn : 1 ≤ n ∧ n ≤ 60 := of_decide_eq_true h
  obtain ⟨N, rfl⟩ : ∃ N : Nat, n = (N : Int) := ⟨n.toNat, by omega⟩
  unfold idx0
  rw [idx_zero (by omega) (by omega)]
  exact implIdx_0 N (by omega) (by omega) w
theorem specI0 (n : Int) (h : inR n 1 60 = true) (w : World) : Calls Tryd.prog 78 #[(.int .i64 0), (.int .i64 n)] w fun e w' => e = .returned (.tuple #[(.int .i64 (idx0 n)), (.int .i64 0)]) ∧ Below w.heap.size w w' := by
  have hn : 1 ≤ n ∧ n ≤ 60 := of_decide_eq_true h
  exact specIdx_0 n (by omega) (by omega) w
/-- the code of a level for mixes: 0, 2 or 3 -/
def lvC (n : Int) : Int := if inR n 1 60 = true then (if idx0 n ≤ 72 then 0 else 3) else 2
theorem lvC_0 {n : Int} (h : lvC n = 0) : inR n 1 60 = true ∧ idx0 n ≤ 72 := by
  unfold lvC at h
  split at h
  · rename_i h1
    split at h
    · rename_i h2; exact ⟨h1, h2⟩
    · omega
  · omega
theorem lvC_len {n : Int} (h : lvC n = 0) : ((ln n).length : Int) = idx0 n ∧ (ln n).length ≤ 72 := by
  obtain ⟨h1, h2⟩ := lvC_0 h
  have hn : 1 ≤ n ∧ n ≤ 60 := of_decide_eq_true h1
  have := ln_index hn.1 hn.2 h2
  unfold idx0 at *
  omega
theorem l08Code_is (n : Int) (k : Int) (hk : lvC n = k) (w : World) : Calls Tryd.prog 77 #[(.int .i64 n)] w fun e w' => e = .returned (.int .i64 k) ∧ Below w.heap.size w w' := by
  unfold lvC at hk
  rcases hn : inR n 1 60 with _ | _
  · rw [hn, if_neg (by simp)] at hk
    have HN := Lib.hid hn
    subst hk
    clear hn
    go_enter Tryd.func77, Tryd.ntmps77
    go_wp2_with fail
    refine (l01In_is false _ _ _ HN.out _).mono ?_
    rintro e w2 ⟨rfl, rfl⟩
    go_wp2
    go_ret
    exact ⟨rfl, by repeat (first | with_reducible exact own_refl _ | with_reducible assumption | with_reducible apply own_alloc | with_reducible apply own_drewN | with_reducible apply own_drew | ((with_reducible refine own_setCell ?_ ?_ _); rotate_left; focus (first | (simp; done) | (simp; omega))) | (with_reducible (refine own_trans ?_ (by assumption))))⟩
  · rw [hn, if_pos rfl] at hk
    have HN := Lib.hid hn
    have HI := Lib.hid (fun w => specI0 n hn w)
    generalize idx0 n = i at *
    by_cases h : i ≤ 72
    · rw [if_pos h] at hk
      subst hk
      clear hn
      go_enter Tryd.func77, Tryd.ntmps77
      go_wp2_with fail
      refine (l01In_is true _ _ _ HN.out _).mono ?_
      rintro e w2 ⟨rfl, rfl⟩
      go_wp2_with fail
      refine (HI.out _).mono ?_
      rintro e w3 ⟨rfl, hb3⟩
      go_wp2
      go_ret
      exact ⟨rfl, by repeat (first | with_reducible exact own_refl _ | with_reducible assumption | with_reducible apply own_alloc | with_reducible apply own_drewN | with_reducible apply own_drew | ((with_reducible refine own_setCell ?_ ?_ _); rotate_left; focus (first | (simp; done) | (simp; omega))) | (with_reducible (refine own_trans ?_ (by assumption))))⟩
    · rw [if_neg h] at hk
      have h' : 72 < i := by omega
      subst hk
      clear hn h
      go_enter Tryd.func77, Tryd.ntmps77
      go_wp2_with fail
      refine (l01In_is true _ _ _ HN.out _).mono ?_
      rintro e w2 ⟨rfl, rfl⟩
      go_wp2_with fail
      refine (HI.out _).mono ?_
      rintro e w3 ⟨rfl, hb3⟩
      go_wp2
      go_ret
      exact ⟨rfl, by repeat (first | with_reducible exact own_refl _ | with_reducible assumption | with_reducible apply own_alloc | with_reducible apply own_drewN | with_reducible apply own_drew | ((with_reducible refine own_setCell ?_ ?_ _); rotate_left; focus (first | (simp; done) | (simp; omega))) | (with_reducible (refine own_trans ?_ (by assumption))))⟩

/-- a list is a mix of a level whose line has i pairs -/
def mixOk (i : Int) (xs : List Int) : Bool := decide ((xs.length : Int) = i) && allW xs 1000000
/-- Slices of integers, one after the other, in a block. -/
def Mixes (w : World) (v : Value) (m : Nat) (vs : Nat → Value) (xss : Nat → List Int) : Prop :=
  (∃ ad cap, v = .slice ad m cap ∧ (0 < m → ∃ g, ad = some ⟨g, 0, none⟩ ∧ g < w.heap.size ∧ ∀ k, k < m → w.cell? ⟨g, k, none⟩ = some (vs k))) ∧ ∀ k, k < m → ∃ L U, Sl w L U (vs k) (xss k)
theorem Mixes.own {w w' : World} {v : Value} {m : Nat} {vs : Nat → Value} {xss : Nat → List Int} (h : Mixes w v m vs xss) (hb : Below w.heap.size w w') : Mixes w' v m vs xss := by
  obtain ⟨⟨ad, cap, rfl, h1⟩, h2⟩ := h
  refine ⟨⟨ad, cap, rfl, fun hm => ?_⟩, fun k hk => ?_⟩
  · obtain ⟨g, e, hg, hc⟩ := h1 hm
    exact ⟨g, e, Nat.lt_of_lt_of_le hg hb.size, fun k hk => (hb.cell (p := ⟨g, k, none⟩) hg).trans (hc k hk)⟩
  · obtain ⟨L, U, h⟩ := h2 k hk
    exact ⟨L, U, h.own hb⟩
def allOk (i : Int) (xss : Nat → List Int) : Nat → Bool
  | 0 => true
  | k + 1 => allOk i xss k && mixOk i (xss k)
theorem allOk_no {i : Int} {xss : Nat → List Int} : ∀ {m k : Nat}, k < m → mixOk i (xss k) = false → allOk i xss m = false
  | 0, k, h, _ => by omega
  | m + 1, k, h, h2 => by
    rw [allOk]
    rcases (show k = m ∨ k < m by omega) with rfl | h3
    · rw [h2, Bool.and_false]
    · rw [allOk_no h3 h2, Bool.false_and]
/-- the code of a level and mixes -/
def mxC (n : Int) (m : Nat) (xss : Nat → List Int) : Int := if lvC n = 0 then (if allOk (idx0 n) xss m = true then 0 else 2) else lvC n
theorem allWithin_sl (xs : List Int) (r : Bool) (hr : allW xs 1000000 = r) (v : Value) (L U : Nat) (hn : xs.length ≤ 4294967296) (w : World) (hS : Sl w L U v xs) :
    Calls Tryd.prog 69 #[v, (.int .i64 1000000)] w fun e w' => e = .returned (.bool r) ∧ w = w' := by
  obtain ⟨_, a, cap, rfl, hc⟩ := hS
  rcases Nat.eq_zero_or_pos xs.length with h0 | h0
  · have hx : xs = [] := List.eq_nil_of_length_eq_zero h0
    subst hx
    have HR : Hid (r = true) := Lib.hid (by rw [← hr]; rfl)
    clear hc hr h0
    go_enter Tryd.func69, Tryd.ntmps69
    go_wp2
    go_loop [9] (fun i => i = (.int .i64 0)) (fun _ => 0)
    case atStart => rfl
    case round =>
      subst hrel
      go_wp2
      go_ret
      exact ⟨ret_bool HR.out.symm, rfl⟩
  · obtain ⟨g, off, rfl, _, _, hcell⟩ := hc h0
    exact hr ▸ allWithin_any xs 1000000 (by omega) (by omega) g off cap hn w (fun k hk => (hcell k hk).1)
set_option maxHeartbeats 2000000 in
theorem codeOfMixes_is (n : Int) (m : Nat) (hm : m ≤ 2) (v : Value) (vs : Nat → Value) (xss : Nat → List Int) (hx : ∀ k, k < m → (xss k).length ≤ 4294967296) (c : Int) (hc : mxC n m xss = c) (w : World) (hM : Mixes w v m vs xss) :
    Calls Tryd.prog 48 #[(.int .i64 n), v] w fun e w' => e = .returned (.int .i64 c) ∧ Below w.heap.size w w' := by
  unfold mxC at hc
  rcases hn : inR n 1 60 with _ | _
  · have hl : lvC n = 2 := by unfold lvC; rw [hn, if_neg (by simp)]
    rw [hl, if_neg (by omega)] at hc
    have HN := Lib.hid hn
    subst hc
    clear hn hl hM hx
    go_enter Tryd.func48, Tryd.ntmps48
    go_wp2_with fail
    refine (isLevel_is false _ HN.out _).mono ?_
    rintro e w2 ⟨rfl, rfl⟩
    go_wp2
    go_ret
    exact ⟨rfl, by repeat (first | with_reducible exact own_refl _ | with_reducible assumption | with_reducible apply own_alloc | with_reducible apply own_drewN | with_reducible apply own_drew | ((with_reducible refine own_setCell ?_ ?_ _); rotate_left; focus (first | (simp; done) | (simp; omega))) | (with_reducible (refine own_trans ?_ (by assumption))))⟩
  have HN := Lib.hid hn
  have HI := Lib.hid (fun w => implI0 n hn w)
  have hl : lvC n = if idx0 n ≤ 72 then 0 else 3 := by unfold lvC; rw [hn, if_pos rfl]
  rw [hl] at hc
  clear hl hn
  generalize idx0 n = i at *
  by_cases h : i ≤ 72
  · rw [if_pos h, if_pos rfl] at hc
    obtain ⟨⟨ad, cap, rfl, hcl⟩, hS⟩ := hM
    have HL := Lib.hid hcl
    have HS := Lib.hid hS
    have HX := Lib.hid hx
    have HC := Lib.hid hc
    clear hcl hS hx hc
    go_enter Tryd.func48, Tryd.ntmps48
    go_wp2_with fail
    refine (isLevel_is true _ HN.out _).mono ?_
    rintro e w2 ⟨rfl, rfl⟩
    go_wp2_with fail
    refine (HI.out _).mono ?_
    rintro e w3 ⟨rfl, hb3⟩
    go_wp2
    go_loopw [21] (fun x wr => ∃ k : Nat, k ≤ m ∧ x = (.int .i64 ((k : Int))) ∧ Below w.heap.size w wr ∧ Hid (allOk i xss k = true)) (fun x _ => m - (intOf x).toNat)
    case atStart => exact ⟨0, Nat.zero_le _, rfl, hb3, Lib.hid rfl⟩
    case round =>
      obtain ⟨k, hk, rfl, T, HA⟩ := hrel
      by_cases hlt : k < m
      · obtain ⟨g, rfl, hg, hcell⟩ := HL.out (by omega)
        have c1 := (T.cell (p := ⟨g, k, none⟩) hg).trans (hcell k hlt)
        obtain ⟨L, U, hs⟩ := HS.out k hlt
        have hs := hs.own T
        have hxl := HX.out k hlt
        obtain ⟨xs, hxs⟩ : ∃ xs, xss k = xs := ⟨_, rfl⟩
        have HNO : Hid (mixOk i xs = false → c = 2) := Lib.hid fun h => by rw [← HC.out, allOk_no hlt (by rw [hxs]; exact h)]; rfl
        have HST : Hid (mixOk i xs = true → allOk i xss (k + 1) = true) := Lib.hid fun h => by rw [allOk, HA.out, hxs, h]; rfl
        rw [hxs] at hs hxl
        have HSX := Lib.hid hs
        obtain ⟨_, a, cp, hv, _⟩ := hs
        rw [hv] at c1 HSX
        clear hxs hcell hv
        by_cases he : (xs.length : Int) = i
        · have hne : ((xs.length : Int) != i) = false := by simp [he]
          rcases hr : allW xs 1000000 with _ | _
          · have H2 : Hid (c = 2) := Lib.hid (HNO.out (by unfold mixOk; rw [hr, Bool.and_false]))
            have HR := Lib.hid hr
            clear hr he
            go_wp2_with fail
            refine (allWithin_sl xs false HR.out _ _ _ hxl _ HSX.out).mono ?_
            rintro e w4 ⟨rfl, rfl⟩
            go_wp2
            go_ret
            exact ⟨ret_int H2.out.symm, T⟩
          · have H2 : Hid (allOk i xss (k + 1) = true) := Lib.hid (HST.out (by unfold mixOk; rw [hr, he]; simp))
            have HR := Lib.hid hr
            clear hr he
            go_wp2_with fail
            refine (allWithin_sl xs true HR.out _ _ _ hxl _ HSX.out).mono ?_
            rintro e w4 ⟨rfl, rfl⟩
            go_wp2
            go_roundw
            case rel => exact ⟨k + 1, by omega, by go_num, T, H2⟩
            case measure => simp [intOf]; omega
        · have hne : ((xs.length : Int) != i) = true := by simp [he]
          have H2 : Hid (c = 2) := Lib.hid (HNO.out (by unfold mixOk; rw [decide_eq_false he, Bool.false_and]))
          clear he
          go_wp2
          go_ret
          exact ⟨ret_int H2.out.symm, T⟩
      · obtain rfl : k = m := by omega
        have H2 : Hid (c = 0) := Lib.hid (by rw [← HC.out, HA.out]; rfl)
        go_wp2
        go_ret
        exact ⟨ret_int H2.out.symm, T⟩
  · rw [if_neg h, if_neg (by omega)] at hc
    have h' : 72 < i := by omega
    subst hc
    clear h hM hx
    go_enter Tryd.func48, Tryd.ntmps48
    go_wp2_with fail
    refine (isLevel_is true _ HN.out _).mono ?_
    rintro e w2 ⟨rfl, rfl⟩
    go_wp2_with fail
    refine (HI.out _).mono ?_
    rintro e w3 ⟨rfl, hb3⟩
    go_wp2
    go_ret
    exact ⟨rfl, by repeat (first | with_reducible exact own_refl _ | with_reducible assumption | with_reducible apply own_alloc | with_reducible apply own_drewN | with_reducible apply own_drew | ((with_reducible refine own_setCell ?_ ?_ _); rotate_left; focus (first | (simp; done) | (simp; omega))) | (with_reducible (refine own_trans ?_ (by assumption))))⟩
theorem inR_W {x : Int} : inR x (-1000000) 1000000 = inW x 1000000 := by
  unfold inR inW
  simp
set_option maxHeartbeats 2000000 in
theorem l08Sums_is (n : Int) (m : Nat) (hm : m ≤ 2) (v : Value) (vs : Nat → Value) (xss : Nat → List Int) (hx : ∀ k, k < m → (xss k).length ≤ 4294967296) (c : Int) (hc : mxC n m xss = c) (w : World) (hM : Mixes w v m vs xss) :
    Calls Tryd.prog 47 #[(.int .i64 n), v] w fun e w' => e = .returned (.int .i64 c) ∧ Below w.heap.size w w' := by
  unfold mxC at hc
  by_cases h : lvC n = 0
  · have HI := Lib.hid (fun w => specI0 n (lvC_0 h).1 w)
    rw [if_pos h] at hc
    generalize idx0 n = i at *
    have H0 := Lib.hid h
    obtain ⟨⟨ad, cap, rfl, hcl⟩, hS⟩ := hM
    have HL := Lib.hid hcl
    have HS := Lib.hid hS
    have HX := Lib.hid hx
    have HC := Lib.hid hc
    clear hcl hS hx hc h
    go_enter Tryd.func47, Tryd.ntmps47
    go_wp2_with fail
    refine (l08Code_is n 0 H0.out _).mono ?_
    rintro e w2 ⟨rfl, hb2⟩
    go_wp2_with fail
    refine (HI.out _).mono ?_
    rintro e w3 ⟨rfl, hb3⟩
    have T3 := own_trans hb2 hb3
    go_wp2
    go_loopw [8] (fun x wr => ∃ k : Nat, k ≤ m ∧ x = (.int .i64 ((k : Int))) ∧ Below w.heap.size w wr ∧ Hid (allOk i xss k = true)) (fun x _ => m - (intOf x).toNat)
    case atStart => exact ⟨0, Nat.zero_le _, rfl, T3, Lib.hid rfl⟩
    case round =>
      obtain ⟨k, hk, rfl, T, HA⟩ := hrel
      by_cases hlt : k < m
      · obtain ⟨g, rfl, hg, hcell⟩ := HL.out (by omega)
        have c1 := (T.cell (p := ⟨g, k, none⟩) hg).trans (hcell k hlt)
        obtain ⟨L, U, hs⟩ := HS.out k hlt
        have hs := hs.own T
        have hxl := HX.out k hlt
        obtain ⟨xs, hxs⟩ : ∃ xs, xss k = xs := ⟨_, rfl⟩
        have HNO : Hid (mixOk i xs = false → c = 2) := Lib.hid fun h => by rw [← HC.out, allOk_no hlt (by rw [hxs]; exact h)]; rfl
        have HST : Hid (mixOk i xs = true → allOk i xss (k + 1) = true) := Lib.hid fun h => by rw [allOk, HA.out, hxs, h]; rfl
        rw [hxs] at hs hxl
        obtain ⟨zU, a, cp, hv, hsc⟩ := hs
        rw [hv] at c1
        have HSC := Lib.hid hsc
        clear hxs hcell hv hsc
        by_cases he : (xs.length : Int) = i
        · have hne : ((xs.length : Int) != i) = false := by simp [he]
          have HE := Lib.hid he
          clear he
          go_wp2
          go_loopw [9] (fun x w2 => ∃ j : Nat, j ≤ xs.length ∧ x = (.int .i64 ((j : Int))) ∧ w2 = wr ∧ Hid (allW (xs.take j) 1000000 = true)) (fun x _ => xs.length - (intOf x).toNat)
          case atStart => exact ⟨0, Nat.zero_le _, rfl, rfl, Lib.hid rfl⟩
          case round =>
            obtain ⟨j, hj, rfl, rfl, HJ⟩ := hrel
            by_cases hjl : j < xs.length
            · obtain ⟨g2, off, rfl, _, hgU, hcell2⟩ := HSC.out (by omega)
              have c2 := (hcell2 j hjl).1
              have HW := Lib.hid (allW_take xs 1000000 j hjl HJ.out)
              have HN := Lib.hid (allW_not xs 1000000 j hjl)
              generalize xs.getD j 0 = y at *
              clear hcell2
              rcases hr : inW y 1000000 with _ | _
              · have H2 : Hid (c = 2) := Lib.hid (HNO.out (by unfold mixOk; rw [HN.out hr, Bool.and_false]))
                have HR := Lib.hid (inR_W.trans hr)
                clear hr
                go_wp2_with fail
                refine (l01In_is false _ _ _ HR.out _).mono ?_
                rintro e w4 ⟨rfl, rfl⟩
                go_wp2
                go_ret
                exact ⟨ret_int H2.out.symm, T⟩
              · have H2 := Lib.hid (HW.out hr)
                have HR := Lib.hid (inR_W.trans hr)
                clear hr
                go_wp2_with fail
                refine (l01In_is true _ _ _ HR.out _).mono ?_
                rintro e w4 ⟨rfl, rfl⟩
                go_wp2
                go_roundw
                case rel => exact ⟨j + 1, by omega, by go_num, by first | trivial | rfl, H2⟩
                case measure => simp [intOf]; omega
            · obtain rfl : j = xs.length := by omega
              have H2 : Hid (allOk i xss (k + 1) = true) := Lib.hid (HST.out (by
                have := HJ.out
                rw [List.take_length] at this
                unfold mixOk
                rw [this, HE.out]
                simp))
              go_wp2
              go_roundw
              case rel => exact ⟨k + 1, by omega, by go_num, T, H2⟩
              case measure => simp [intOf]; omega
        · have hne : ((xs.length : Int) != i) = true := by simp [he]
          have H2 : Hid (c = 2) := Lib.hid (HNO.out (by unfold mixOk; rw [decide_eq_false he, Bool.false_and]))
          clear he
          go_wp2
          go_ret
          exact ⟨ret_int H2.out.symm, T⟩
      · obtain rfl : k = m := by omega
        have H2 : Hid (c = 0) := Lib.hid (by rw [← HC.out, HA.out]; rfl)
        go_wp2
        go_ret
        exact ⟨ret_int H2.out.symm, T⟩
  · rw [if_neg h] at hc
    have hne : (c != 0) = true := by rw [← hc]; simpa using h
    have HC := Lib.hid hc
    clear hM hx h hc
    go_enter Tryd.func47, Tryd.ntmps47
    go_wp2_with fail
    refine (l08Code_is n c HC.out _).mono ?_
    rintro e w2 ⟨rfl, hb2⟩
    go_wp2
    go_ret
    exact ⟨rfl, by repeat (first | with_reducible exact own_refl _ | with_reducible assumption | with_reducible apply own_alloc | with_reducible apply own_drewN | with_reducible apply own_drew | ((with_reducible refine own_setCell ?_ ?_ _); rotate_left; focus (first | (simp; done) | (simp; omega))) | (with_reducible (refine own_trans ?_ (by assumption))))⟩

/-- one of the five primes -/
def isFive (p : Int) : Bool := p == 5 || (p == 7 || (p == 11 || (p == 101 || p == 10007)))
theorem isFive_yes {p : Int} (h : isFive p = true) : p = 5 ∨ p = 7 ∨ p = 11 ∨ p = 101 ∨ p = 10007 := by simpa [isFive] using h
theorem isFive_no {p : Int} (h : isFive p = false) : (p == 5) = false ∧ (p == 7) = false ∧ (p == 11) = false ∧ (p == 101) = false ∧ (p == 10007) = false := by simpa [isFive] using h
/-- the code of a level, a prime and mixes -/
def mpC (n p : Int) (m : Nat) (xss : Nat → List Int) : Int := if isFive p = true then mxC n m xss else 2
end Go.Proofs.YtdcomnnpnhinfaaDoor
