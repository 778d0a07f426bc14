/- The laws' helpers over slices of slices of integers. -/
import Derived.Test.YtfchfakkbdfajaaSS
namespace Go.Proofs.Ytfchfakkbdfajaa
open Go.ChangeShapes Go.WideShapes Go.ChangeAt Go.RowKit

theorem add0 (g k : Nat) : (⟨g, 0, none⟩ : Addr).add k = ⟨g, k, none⟩ := by unfold Addr.add; split <;> simp_all
theorem GrV.rowAt {w : World} {L : Nat} {v : Value} {vs : List Value} {xss : List (List Int)} (h : GrV w L v vs xss) {ad : Option Addr} {n cap : Nat} (hv : v = .slice ad n cap) (hn : 0 < n) :
    ∃ g, ad = some ⟨g, 0, none⟩ ∧ L ≤ g ∧ g < w.heap.size ∧ ∀ k, k < xss.length → w.cell? ⟨g, k, none⟩ = some (vs.getD k rowZ) := by
  obtain ⟨h1, h2, h3, h4⟩ := h
  subst hv
  have hs := h1
  obtain ⟨_, ⟨e, h0⟩ | ⟨g, cap', cur, e, hg, hh, _⟩⟩ := h1
  · injection e with e1 e2 e3
    omega
  · injection e with e1 e2 e3
    refine ⟨g, e1, hg, (Array.getElem?_eq_some_iff.1 hh).1, fun k hk => ?_⟩
    have hk' : k < vs.length := by omega
    have := hs.cells (g := g) (by rw [e1]; rfl) k (vs.getD k rowZ) (by simp [List.getD, List.getElem?_eq_getElem hk'])
    rwa [add0] at this
theorem GrV.row {w : World} {L : Nat} {v : Value} {vs : List Value} {xss : List (List Int)} (h : GrV w L v vs xss) {k : Nat} (hk : k < xss.length) : Gr w L (vs.getD k rowZ) (xss.getD k []) := h.2.2.1 k hk
theorem row_le {xss : List (List Int)} {M : Nat} (h : ∀ xs ∈ xss, xs.length ≤ M) {k : Nat} (hk : k < xss.length) : (xss.getD k []).length ≤ M := by
  have e : xss.getD k [] = xss[k] := by simp [List.getD, List.getElem?_eq_getElem hk]
  rw [e]
  exact h _ (List.getElem_mem hk)

set_option maxHeartbeats 1000000 in
theorem eqSS_same (v u : Value) (xss : List (List Int)) (L L' : Nat) (w : World) (hn : xss.length ≤ 1000000) (hM : ∀ xs ∈ xss, xs.length ≤ 1000000) (hv : GrSS w L v xss) (hu : GrSS w L' u xss) :
    Calls Try.prog 18 #[v, u] w fun e w' => e = .returned (.bool true) ∧ Below w.heap.size w w' := by
  obtain ⟨vs, hv⟩ := hv
  obtain ⟨us, hu⟩ := hu
  obtain ⟨ad, cap, e1⟩ := hv.shape
  obtain ⟨ad', cap', e2⟩ := hu.shape
  subst e1 e2
  have HV := Lib.hid hv
  have HU := Lib.hid hu
  have HM := Lib.hid hM
  obtain ⟨m, hm⟩ : ∃ m, xss.length = m := ⟨_, rfl⟩
  have HL := Lib.hid hm
  rw [hm] at hn ⊢
  have hA : Hid (0 < m → ∃ g g', ad = some ⟨g, 0, none⟩ ∧ ad' = some ⟨g', 0, none⟩) := Lib.hid fun h => by
    obtain ⟨g, e, _⟩ := hv.rowAt rfl (by rw [hm]; exact h)
    obtain ⟨g', e', _⟩ := hu.rowAt rfl (by rw [hm]; exact h)
    exact ⟨g, g', e, e'⟩
  clear hv hu hM hm
  go_enter Try.func18, Try.ntmps18
  go_wp2
  go_loopw [5] (fun i wr => ∃ k : Nat, k ≤ m ∧ i = (.int .i64 k) ∧ Below w.heap.size w wr) (fun i _ => m - (intOf i).toNat)
  case atStart => exact ⟨0, Nat.zero_le _, rfl, own_refl _⟩
  case round =>
    obtain ⟨k, hk, rfl, hb⟩ := hrel
    by_cases hlt : k < m
    · obtain ⟨g, g', rfl, rfl⟩ := hA.out (by omega)
      have hkx : k < xss.length := by rw [HL.out]; exact hlt
      have HVr := HV.out.own hb
      have HUr := HU.out.own hb
      obtain ⟨_, e, _, hgl, hc⟩ := HVr.rowAt rfl (by rw [HL.out]; omega)
      obtain ⟨_, e', _, hgl', hc'⟩ := HUr.rowAt rfl (by rw [HL.out]; omega)
      injection e with e; injection e with e; subst e
      injection e' with e'; injection e' with e'; subst e'
      have c1 := hc k hkx
      have c2 := hc' k hkx
      have R1 := Lib.hid (HVr.row hkx)
      have R2 := Lib.hid (HUr.row hkx)
      have hrl := row_le HM.out hkx
      generalize vs.getD k rowZ = r1 at *
      generalize us.getD k rowZ = r2 at *
      generalize xss.getD k [] = xs at *
      clear hc hc' HVr HUr
      go_wp2_with fail
      go_region_held3 (fun w' => w'.cell? ⟨g, k, none⟩ = some r1 ∧ w'.cell? ⟨g', k, none⟩ = some r2) (go_keep)
        (first | (go_at_call 29; refine (eqS_same _ _ xs _ _ _ _ _ (by omega) R1.out.drew.sl R2.out.drew.sl).mono ?_; rintro e w1 ⟨rfl, hb1⟩; have T1 := own_trans (own_drew hb) hb1; have k1 : w1.cell? ⟨g, k, none⟩ = some r1 := (hb1.cell (p := ⟨g, k, none⟩) hgl).trans c1; have k2 : w1.cell? ⟨g', k, none⟩ = some r2 := (hb1.cell (p := ⟨g', k, none⟩) hgl').trans c2; clear hb1))
      all_goals
        go_wp2
        go_roundw
        case rel => exact ⟨k + 1, by omega, by go_num, T1⟩
        case measure => simp [intOf]; omega
    · go_wp2
      go_ret
      exact ⟨rfl, hb⟩

def sumL : List (List Int) → Nat
  | [] => 0
  | xs :: r => xs.length + sumL r
theorem sumL_take {xss : List (List Int)} : ∀ {k : Nat}, k < xss.length → sumL (xss.take (k + 1)) = sumL (xss.take k) + (xss.getD k []).length := by
  induction xss with
  | nil => intro k h; simp at h
  | cons x r ih =>
    intro k h
    cases k with
    | zero => simp [sumL]
    | succ k =>
      have := ih (k := k) (by simpa using h)
      simp only [List.take_succ_cons, sumL] at this ⊢
      rw [this]
      simp
      omega
theorem sumL_take_le (xss : List (List Int)) : ∀ k : Nat, sumL (xss.take k) ≤ sumL xss := by
  induction xss with
  | nil => intro k; simp [sumL]
  | cons x r ih =>
    intro k
    cases k with
    | zero => simp [sumL]
    | succ k =>
      have := ih k
      simp only [List.take_succ_cons, sumL]
      omega
/-- After the marks of the first k rows. -/
def mkL (m : Int) (xss : List (List Int)) (k : Nat) : List (List Int) :=
  (List.range xss.length).map fun i => if i < k then ramp (m + (sumL (xss.take i) : Nat)) (xss.getD i []).length else xss.getD i []
theorem mkL_len (m : Int) (xss : List (List Int)) (k : Nat) : (mkL m xss k).length = xss.length := by simp [mkL]
theorem mkL_get (m : Int) (xss : List (List Int)) (k i : Nat) (h : i < xss.length) : (mkL m xss k).getD i [] = if i < k then ramp (m + (sumL (xss.take i) : Nat)) (xss.getD i []).length else xss.getD i [] := by
  unfold mkL
  simp [List.getD, List.getElem?_range h]
theorem GrV.congr {w : World} {L : Nat} {v : Value} {vs : List Value} {xss yss : List (List Int)} (h : GrV w L v vs xss) (hl : yss.length = xss.length) (he : ∀ i, i < xss.length → yss.getD i [] = xss.getD i []) : GrV w L v vs yss := by
  obtain ⟨h1, h2, h3, h4⟩ := h
  exact ⟨h1, by omega, fun i hi => by rw [he i (by omega)]; exact h3 i (by omega), fun i j hij hj => h4 i j hij (by omega)⟩
theorem GrV.mark {w w' : World} {L : Nat} {v : Value} {vs : List Value} {m : Int} {xss : List (List Int)} {k : Nat} (h : GrV w L v vs (mkL m xss k)) (hk : k < xss.length)
    (hr : Gr w' L (vs.getD k rowZ) (ramp (m + (sumL (xss.take k) : Nat)) (xss.getD k []).length)) (hg : w.grownBy w' (vs.getD k rowZ).ownBlock) : GrV w' L v vs (mkL m xss (k + 1)) := by
  obtain ⟨h1, h2, h3, h4⟩ := h
  rw [mkL_len] at h2 h3 h4
  refine ⟨kept_apart types_ss h1 (h3 k hk) hg, by rw [mkL_len]; exact h2, fun i hi => ?_, fun i j hij hj => ?_⟩
  · rw [mkL_len] at hi
    rw [mkL_get _ _ _ _ hi]
    by_cases e : i = k
    · subst e
      rw [if_pos (by omega)]
      exact hr
    · have := h3 i hi
      rw [mkL_get _ _ _ _ hi] at this
      have e2 : (if i < k + 1 then ramp (m + (sumL (xss.take i) : Nat)) (xss.getD i []).length else xss.getD i []) = (if i < k then ramp (m + (sumL (xss.take i) : Nat)) (xss.getD i []).length else xss.getD i []) := by
        by_cases h5 : i < k
        · rw [if_pos h5, if_pos (by omega)]
        · rw [if_neg h5, if_neg (by omega)]
      rw [e2]
      refine World.ownsRow.kept this hg ?_
      rcases hi' : (vs.getD i rowZ).ownBlock with _ | a
      · exact .inl rfl
      · refine .inr fun he => ?_
        rcases Nat.lt_or_gt_of_ne e with h5 | h5
        · exact h4 i k h5 hk a hi' he.symm
        · exact h4 k i h5 hi a he.symm hi'
  · rw [mkL_len] at hj
    exact h4 i j hij hj

theorem DRR (w : World) (r : Option Nat) : w.grownBy w r := ⟨rfl, rfl, rfl, Nat.le_refl _, fun _ _ _ => rfl⟩
theorem setRow (w : World) (p : Addr) (u : Value) : w.grownBy (w.setCell p u) (some p.block) :=
  ⟨rfl, rfl, rfl, by simp [World.setCell], fun k _ hk => Below.heap_setCell w p u k (fun e => hk (by rw [e]))⟩
set_option maxHeartbeats 1000000 in
theorem markG_any (v : Value) (xs : List Int) (m : Int) (L : Nat) (w : World) (hn : xs.length ≤ 4294967296) (hm : 0 ≤ m) (hm' : m ≤ 4294967296) (hv : Gr w L v xs) :
    Calls Try.prog 30 #[v, (.int .i64 m)] w fun e w' => e = .returned (.int .i64 (m + xs.length)) ∧ Gr w' L v (ramp m xs.length) ∧ w.grownBy w' v.ownBlock := by
  obtain ⟨ad, cap, rfl⟩ := hv.shape
  rcases Nat.eq_zero_or_pos xs.length with h0 | h0
  · have hx : xs = [] := List.eq_nil_of_length_eq_zero h0
    subst hx
    go_enter Try.func30, Try.ntmps30
    go_wp2
    go_loop [1, 5] (fun q i => i = (.int .i64 0) ∧ q = (.int .i64 m)) (fun _ _ => 0)
    case atStart => exact ⟨rfl, rfl⟩
    case round =>
      obtain ⟨rfl, rfl⟩ := hrel
      go_wp2
      go_ret
      exact ⟨ret_int (by simp), hv, DRR w _⟩
  · obtain ⟨g, rfl, hL, hg, _⟩ := hv.cellsZ h0
    have HV := Lib.hid hv
    obtain ⟨n, hnn⟩ : ∃ n, xs.length = n := ⟨_, rfl⟩
    have HN := Lib.hid hnn
    rw [hnn] at hn ⊢
    clear hv h0 hnn
    go_enter Try.func30, Try.ntmps30
    go_wp2
    go_loopw [1, 5] (fun q i wr => ∃ k : Nat, k ≤ n ∧ i = (.int .i64 k) ∧ q = (.int .i64 (m + k)) ∧ Hid (Gr wr L (.slice (some ⟨g, 0, none⟩) n cap) (part m xs k)) ∧ w.grownBy wr (some g)) (fun _ i _ => n - (intOf i).toNat)
    case atStart => exact ⟨0, Nat.zero_le _, rfl, by simp, Lib.hid (by rw [part_zero, ← HN.out]; exact HV.out), DRR w _⟩
    case round =>
      obtain ⟨k, hk, rfl, rfl, HG, hb⟩ := hrel
      by_cases hlt : k < n
      · have hpl : (part m xs k).length = n := by rw [part_length _ _ _ (by rw [HN.out]; omega)]; exact HN.out
        obtain ⟨g', e, _, _, hc⟩ := HG.out.cellsZ (by omega)
        injection e with e; injection e with e; subst e
        obtain ⟨hx, hf⟩ := hc k hlt
        have HS : Hid (Gr (wr.setCell ⟨g, k, none⟩ (.int .i64 (m + k))) L (.slice (some ⟨g, 0, none⟩) n cap) (part m xs (k + 1))) := Lib.hid (by
          have h1 := HG.out
          have h2 := (show Gr wr L (.slice (some ⟨g, 0, none⟩) (part m xs k).length cap) (part m xs k) by rw [hpl]; exact h1).putZ (k := k) (y := m + k) (by rw [hpl]; exact hlt)
          rw [hpl] at h2
          have e : (part m xs k).set k (m + k) = part m xs (k + 1) := by
            apply List.ext_getElem?
            intro j
            have l1 : (part m xs (k + 1)).length = n := by rw [part_length _ _ _ (by rw [HN.out]; omega)]; exact HN.out
            by_cases hj : j < n
            · have a1 : ((part m xs k).set k (m + k)).getD j 0 = (part m xs (k + 1)).getD j 0 := by
                by_cases ej : j = k
                · subst ej
                  rw [part_get, if_pos (by omega)]
                  simp [List.getD, hpl, hj]
                · have : ((part m xs k).set k (m + k)).getD j 0 = (part m xs k).getD j 0 := by simp [List.getD, List.getElem?_set_ne (Ne.symm ej)]
                  rw [this, part_get, part_get]
                  by_cases h5 : j < k
                  · rw [if_pos h5, if_pos (by omega)]
                  · rw [if_neg h5, if_neg (by omega)]
              rw [List.getElem?_eq_getElem (by simp [hpl, hj]), List.getElem?_eq_getElem (by omega)]
              simpa [List.getD, List.getElem?_eq_getElem (show j < ((part m xs k).set k (m + k)).length by simp [hpl, hj]), List.getElem?_eq_getElem (show j < (part m xs (k + 1)).length by omega)] using a1
            · rw [List.getElem?_eq_none (by simp [hpl]; omega), List.getElem?_eq_none (by omega)]
          rw [e] at h2
          exact h2)
        clear hc hpl
        go_wp2
        go_roundw
        case rel => exact ⟨k + 1, by omega, by go_num, by go_num, HS, World.grownBy.trans hb (setRow wr ⟨g, k, none⟩ _)⟩
        case measure => simp [intOf]; omega
      · have HE2 := Lib.hid (show k = n by omega)
        go_wp2
        go_ret
        refine ⟨ret_int (by rw [HE2.out]), ?_, hb⟩
        have := HG.out
        rw [HE2.out, ← HN.out, part_all] at this
        rw [← HN.out]
        exact this

set_option maxHeartbeats 1000000 in
theorem markSS_any (v : Value) (xss : List (List Int)) (m : Int) (L : Nat) (w : World) (hn : xss.length ≤ 1000000) (hM : sumL xss ≤ 1000000) (hm : 0 ≤ m) (hm' : m ≤ 1000000) (hL : L ≤ w.heap.size) (hv : GrSS w L v xss) :
    Calls Try.prog 20 #[v, (.int .i64 m)] w fun e w' => e = .returned (.int .i64 (m + sumL xss)) ∧ GrSS w' L v (mkL m xss xss.length) ∧ Below L w w' := by
  obtain ⟨vs, hv⟩ := hv
  obtain ⟨ad, cap, e1⟩ := hv.shape
  subst e1
  obtain ⟨N, hN⟩ : ∃ N, xss.length = N := ⟨_, rfl⟩
  have HN := Lib.hid hN
  have HM := Lib.hid hM
  have HV : Hid (GrV w L (.slice ad N cap) vs (mkL m xss 0)) := Lib.hid (by
    rw [← hN]
    exact hv.congr (mkL_len _ _ _) (fun i hi => by rw [mkL_get _ _ _ _ hi, if_neg (by omega)]))
  have hA : Hid (0 < N → ∃ g, ad = some ⟨g, 0, none⟩) := Lib.hid fun h => by
    obtain ⟨g, e, _⟩ := hv.rowAt rfl (by rw [hN]; exact h)
    exact ⟨g, e⟩
  rw [hN] at hn ⊢
  clear hv hM hN
  go_enter Try.func20, Try.ntmps20
  go_wp2
  go_loopw [1, 5] (fun q i wr => ∃ (k : Nat) (x : Int), k ≤ N ∧ i = (.int .i64 k) ∧ q = (.int .i64 x) ∧ Hid (x = m + (sumL (xss.take k) : Nat)) ∧ 0 ≤ x ∧ x ≤ 2000000 ∧ Hid (GrV wr L (.slice ad N cap) vs (mkL m xss k)) ∧ L ≤ wr.heap.size ∧ Below L w wr) (fun _ i _ => N - (intOf i).toNat)
  case atStart => exact ⟨0, m, Nat.zero_le _, rfl, rfl, Lib.hid (by simp [sumL]), hm, by omega, HV, hL, Below.refl _ _⟩
  case round =>
    obtain ⟨k, x, hk, rfl, rfl, HX, x0, x1, HG, hz, T⟩ := hrel
    by_cases hlt : k < N
    · obtain ⟨g, rfl⟩ := hA.out (by omega)
      have hkx : k < xss.length := by rw [HN.out]; exact hlt
      obtain ⟨_, e, _, _, hc⟩ := HG.out.rowAt rfl (by omega)
      injection e with e; injection e with e; subst e
      have c1 := hc k (by rw [mkL_len]; exact hkx)
      have hrow : Hid (Gr wr L (vs.getD k rowZ) (xss.getD k [])) := Lib.hid (by
        have := HG.out.row (k := k) (by rw [mkL_len]; exact hkx)
        rwa [mkL_get _ _ _ _ hkx, if_neg (by omega)] at this)
      have hst := sumL_take hkx
      have hsl := sumL_take_le xss (k + 1)
      have hr1 : (xss.getD k []).length ≤ 1000000 := by have := HM.out; omega
      have HST : Hid (x + ((xss.getD k []).length : Int) = m + (sumL (xss.take (k + 1)) : Nat) ∧ 0 ≤ x + ((xss.getD k []).length : Int) ∧ x + ((xss.getD k []).length : Int) ≤ 2000000) := Lib.hid (by
        have := HX.out; have := HM.out
        rw [hst] at hsl ⊢
        simp only [Int.natCast_add]
        omega)
      obtain ⟨r, hr⟩ : ∃ r, vs.getD k rowZ = r := ⟨_, rfl⟩
      obtain ⟨xs, hxs⟩ : ∃ xs, xss.getD k [] = xs := ⟨_, rfl⟩
      have HRX := Lib.hid (And.intro hr hxs)
      rw [hr] at c1
      rw [hr, hxs] at hrow
      rw [hxs] at HST hr1
      have hlx := hrow.out.lt
      clear hc hst hsl hr hxs
      go_wp2_with fail
      refine (markG_any r xs x L _ (by omega) x0 (by omega) hrow.out).mono ?_
      rintro e w1 ⟨rfl, hG1, hg1⟩
      obtain ⟨y, hy⟩ : ∃ y : Int, x + (xs.length : Int) = y := ⟨_, rfl⟩
      rw [hy] at HST ⊢
      obtain ⟨hy1, hy2, hy3⟩ := HST.out
      have HY := Lib.hid hy1
      have HG1 : Hid (GrV w1 L (.slice (some ⟨g, 0, none⟩) N cap) vs (mkL m xss (k + 1))) := Lib.hid (by
        refine HG.out.mark hkx ?_ ?_
        · rw [HRX.out.1, HRX.out.2, ← HX.out]; exact hG1
        · rw [HRX.out.1]; exact hg1)
      have T1 := T.grown hg1 hz (fun a ha => (hlx a ha).1)
      have hz1 := hg1.size
      clear hy hy1 hG1 hg1
      go_wp2
      go_roundw
      case rel => exact ⟨k + 1, y, by omega, by go_num, rfl, HY, hy2, hy3, HG1, by omega, T1⟩
      case measure => simp [intOf]; omega
    · have HE : Hid (k = N ∧ x = m + sumL xss) := Lib.hid (by
        have e : k = N := by omega
        refine ⟨e, ?_⟩
        have := HX.out
        rw [e, ← HN.out, List.take_length] at this
        exact this)
      go_wp2
      go_ret
      exact ⟨ret_int HE.out.2, ⟨vs, by have := HG.out; rw [HE.out.1] at this; exact this⟩, T⟩

set_option maxHeartbeats 1000000 in
theorem heldSS_mk (v : Value) (xss : List (List Int)) (m : Int) (L : Nat) (w : World) (hn : xss.length ≤ 1000000) (hM : sumL xss ≤ 1000000) (hm : 0 ≤ m) (hm' : m ≤ 1000000) (hv : GrSS w L v (mkL m xss xss.length)) :
    Calls Try.prog 21 #[v, (.int .i64 m)] w fun e w' => e = .returned (.int .i64 (m + sumL xss)) ∧ w = w' := by
  obtain ⟨vs, hv⟩ := hv
  obtain ⟨ad, cap, e1⟩ := hv.shape
  subst e1
  rw [mkL_len] at hv ⊢
  obtain ⟨N, hN⟩ : ∃ N, xss.length = N := ⟨_, rfl⟩
  have HN := Lib.hid hN
  have HM := Lib.hid hM
  rw [hN] at hv hn ⊢
  have HV := Lib.hid hv
  have hA : Hid (0 < N → ∃ g, ad = some ⟨g, 0, none⟩) := Lib.hid fun h => by
    obtain ⟨g, e, _⟩ := hv.rowAt rfl h
    exact ⟨g, e⟩
  clear hv hM hN
  go_enter Try.func21, Try.ntmps21
  go_wp2
  go_loopw [1, 5] (fun q i wr => ∃ (k : Nat) (x : Int), k ≤ N ∧ i = (.int .i64 k) ∧ q = (.int .i64 x) ∧ Hid (x = m + (sumL (xss.take k) : Nat)) ∧ 0 ≤ x ∧ x ≤ 2000000 ∧ w = wr) (fun _ i _ => N - (intOf i).toNat)
  case atStart => exact ⟨0, m, Nat.zero_le _, rfl, rfl, Lib.hid (by simp [sumL]), hm, by omega, rfl⟩
  case round =>
    obtain ⟨k, x, hk, rfl, rfl, HX, x0, x1, rfl⟩ := hrel
    by_cases hlt : k < N
    · obtain ⟨g, rfl⟩ := hA.out (by omega)
      have hkx : k < xss.length := by rw [HN.out]; exact hlt
      obtain ⟨_, e, _, _, hc⟩ := HV.out.rowAt rfl (by omega)
      injection e with e; injection e with e; subst e
      have c1 := hc k (by rw [mkL_len]; exact hkx)
      have hrow : Hid (Gr w L (vs.getD k rowZ) (ramp x (xss.getD k []).length)) := Lib.hid (by
        have := HV.out.row (k := k) (by rw [mkL_len]; exact hkx)
        rwa [mkL_get _ _ _ _ hkx, if_pos (by omega), ← HX.out] at this)
      have hst := sumL_take hkx
      have hsl := sumL_take_le xss (k + 1)
      have hr1 : (xss.getD k []).length ≤ 1000000 := by have := HM.out; omega
      have HST : Hid (x + ((xss.getD k []).length : Int) = m + (sumL (xss.take (k + 1)) : Nat) ∧ 0 ≤ x + ((xss.getD k []).length : Int) ∧ x + ((xss.getD k []).length : Int) ≤ 2000000) := Lib.hid (by
        have := HX.out; have := HM.out
        rw [hst] at hsl ⊢
        simp only [Int.natCast_add]
        omega)
      generalize vs.getD k rowZ = r at *
      generalize (xss.getD k []).length = n at *
      clear hc hst hsl
      go_wp2_with fail
      refine (heldS_ramp r x n _ _ _ (by omega) x0 (by omega) hrow.out.sl).mono ?_
      rintro e w1 ⟨rfl, rfl⟩
      obtain ⟨y, hy⟩ : ∃ y : Int, x + (n : Int) = y := ⟨_, rfl⟩
      rw [hy] at HST ⊢
      obtain ⟨hy1, hy2, hy3⟩ := HST.out
      have HY := Lib.hid hy1
      clear hy hy1
      go_wp2
      go_roundw
      case rel => exact ⟨k + 1, y, by omega, by go_num, rfl, HY, hy2, hy3, by trivial⟩
      case measure => simp [intOf]; omega
    · have HE : Hid (x = m + sumL xss) := Lib.hid (by
        have e : k = N := by omega
        have := HX.out
        rw [e, ← HN.out, List.take_length] at this
        exact this)
      go_wp2
      go_ret
      exact ⟨ret_int HE.out, rfl⟩
end Go.Proofs.Ytfchfakkbdfajaa
