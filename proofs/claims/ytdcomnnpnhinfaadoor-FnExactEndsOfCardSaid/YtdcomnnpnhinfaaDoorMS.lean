/- The laws' helpers over slices of slices of integers. -/
import Derived.Test.YtdcomnnpnhinfaaDoorSS
namespace Go.Proofs.YtdcomnnpnhinfaaDoor
open Go.ChangeShapes Go.WideShapes Go.ChangeAt Go.RowKit

theorem add0 (g k : Nat) : (⟨g, 0, none⟩ : Addr).add k = ⟨g, k, none⟩ := by unfold Addr.add; split <;> simp_all
theorem GrV.rowAt {w : World} {L : Nat} {v : Value} {vs : List Value} {xss : List (List Int)} (h : GrV w L v vs xss) {ad : Option Addr} {n cap : Nat} (hv : v = .slice ad n cap) (hn : 0 < n) :
    ∃ g, ad = some ⟨g, 0, none⟩ ∧ L ≤ g ∧ g < w.heap.size ∧ ∀ k, k < xss.length → w.cell? ⟨g, k, none⟩ = some (vs.getD k rowZ) := by
  obtain ⟨h1, h2, h3, h4⟩ := h
  subst hv
  have hs := h1
  obtain ⟨_, ⟨e, h0⟩ | ⟨g, cap', cur, e, hg, hh, _⟩⟩ := h1
  · injection e with e1 e2 e3
    omega
  · injection e with e1 e2 e3
    refine ⟨g, e1, hg, (Array.getElem?_eq_some_iff.1 hh).1, fun k hk => ?_⟩
    have hk' : k < vs.length := by omega
    have := hs.cells (g := g) (by rw [e1]; rfl) k (vs.getD k rowZ) (by simp [List.getD, List.getElem?_eq_getElem hk'])
    rwa [add0] at this
theorem GrV.row {w : World} {L : Nat} {v : Value} {vs : List Value} {xss : List (List Int)} (h : GrV w L v vs xss) {k : Nat} (hk : k < xss.length) : Gr w L (vs.getD k rowZ) (xss.getD k []) := h.2.2.1 k hk
theorem row_le {xss : List (List Int)} {M : Nat} (h : ∀ xs ∈ xss, xs.length ≤ M) {k : Nat} (hk : k < xss.length) : (xss.getD k []).length ≤ M := by
  have e : xss.getD k [] = xss[k] := by simp [List.getD, List.getElem?_eq_getElem hk]
  rw [e]
  exact h _ (List.getElem_mem hk)

def sumL : List (List Int) → Nat
  | [] => 0
  | xs :: r => xs.length + sumL r
theorem sumL_take {xss : List (List Int)} : ∀ {k : Nat}, k < xss.length → sumL (xss.take (k + 1)) = sumL (xss.take k) + (xss.getD k []).length := by
  induction xss with
  | nil => intro k h; simp at h
  | cons x r ih =>
    intro k h
    cases k with
    | zero => simp [sumL]
    | succ k =>
      have := ih (k := k) (by simpa using h)
      simp only [List.take_succ_cons, sumL] at this ⊢
      rw [this]
      simp
      omega
theorem sumL_take_le (xss : List (List Int)) : ∀ k : Nat, sumL (xss.take k) ≤ sumL xss := by
  induction xss with
  | nil => intro k; simp [sumL]
  | cons x r ih =>
    intro k
    cases k with
    | zero => simp [sumL]
    | succ k =>
      have := ih k
      simp only [List.take_succ_cons, sumL]
      omega
/-- After the marks of the first k rows. -/
def mkL (m : Int) (xss : List (List Int)) (k : Nat) : List (List Int) :=
  (List.range xss.length).map fun i => if i < k then ramp (m + (sumL (xss.take i) : Nat)) (xss.getD i []).length else xss.getD i []
theorem mkL_len (m : Int) (xss : List (List Int)) (k : Nat) : (mkL m xss k).length = xss.length := by simp [mkL]
theorem mkL_get (m : Int) (xss : List (List Int)) (k i : Nat) (h : i < xss.length) : (mkL m xss k).getD i [] = if i < k then ramp (m + (sumL (xss.take i) : Nat)) (xss.getD i []).length else xss.getD i [] := by
  unfold mkL
  simp [List.getD, List.getElem?_range h]
theorem GrV.congr {w : World} {L : Nat} {v : Value} {vs : List Value} {xss yss : List (List Int)} (h : GrV w L v vs xss) (hl : yss.length = xss.length) (he : ∀ i, i < xss.length → yss.getD i [] = xss.getD i []) : GrV w L v vs yss := by
  obtain ⟨h1, h2, h3, h4⟩ := h
  exact ⟨h1, by omega, fun i hi => by rw [he i (by omega)]; exact h3 i (by omega), fun i j hij hj => h4 i j hij (by omega)⟩
theorem GrV.mark {w w' : World} {L : Nat} {v : Value} {vs : List Value} {m : Int} {xss : List (List Int)} {k : Nat} (h : GrV w L v vs (mkL m xss k)) (hk : k < xss.length)
    (hr : Gr w' L (vs.getD k rowZ) (ramp (m + (sumL (xss.take k) : Nat)) (xss.getD k []).length)) (hg : w.grownBy w' (vs.getD k rowZ).ownBlock) : GrV w' L v vs (mkL m xss (k + 1)) := by
  obtain ⟨h1, h2, h3, h4⟩ := h
  rw [mkL_len] at h2 h3 h4
  refine ⟨kept_apart types_ss h1 (h3 k hk) hg, by rw [mkL_len]; exact h2, fun i hi => ?_, fun i j hij hj => ?_⟩
  · rw [mkL_len] at hi
    rw [mkL_get _ _ _ _ hi]
    by_cases e : i = k
    · subst e
      rw [if_pos (by omega)]
      exact hr
    · have := h3 i hi
      rw [mkL_get _ _ _ _ hi] at this
      have e2 : (if i < k + 1 then ramp (m + (sumL (xss.take i) : Nat)) (xss.getD i []).length else xss.getD i []) = (if i < k then ramp (m + (sumL (xss.take i) : Nat)) (xss.getD i []).length else xss.getD i []) := by
        by_cases h5 : i < k
        · rw [if_pos h5, if_pos (by omega)]
        · rw [if_neg h5, if_neg (by omega)]
      rw [e2]
      refine World.ownsRow.kept this hg ?_
      rcases hi' : (vs.getD i rowZ).ownBlock with _ | a
      · exact .inl rfl
      · refine .inr fun he => ?_
        rcases Nat.lt_or_gt_of_ne e with h5 | h5
        · exact h4 i k h5 hk a hi' he.symm
        · exact h4 k i h5 hi a he.symm hi'
  · rw [mkL_len] at hj
    exact h4 i j hij hj

theorem DRR (w : World) (r : Option Nat) : w.grownBy w r := ⟨rfl, rfl, rfl, Nat.le_refl _, fun _ _ _ => rfl⟩
theorem setRow (w : World) (p : Addr) (u : Value) : w.grownBy (w.setCell p u) (some p.block) :=
  ⟨rfl, rfl, rfl, by simp [World.setCell], fun k _ hk => Below.heap_setCell w p u k (fun e => hk (by rw [e]))⟩
set_option maxHeartbeats 1000000 in
theorem markG_any (v : Value) (xs : List Int) (m : Int) (L : Nat) (w : World) (hn : xs.length ≤ 4294967296) (hm : 0 ≤ m) (hm' : m ≤ 4294967296) (hv : Gr w L v xs) :
    Calls Tryd.prog 20 #[v, (.int .i64 m)] w fun e w' => e = .returned (.int .i64 (m + xs.length)) ∧ Gr w' L v (ramp m xs.length) ∧ w.grownBy w' v.ownBlock := by
  obtain ⟨ad, cap, rfl⟩ := hv.shape
  rcases Nat.eq_zero_or_pos xs.length with h0 | h0
  · have hx : xs = [] := List.eq_nil_of_length_eq_zero h0
    subst hx
    go_enter Tryd.func20, Tryd.ntmps20
    go_wp2
    go_loop [1, 5] (fun q i => i = (.int .i64 0) ∧ q = (.int .i64 m)) (fun _ _ => 0)
    case atStart => exact ⟨rfl, rfl⟩
    case round =>
      obtain ⟨rfl, rfl⟩ := hrel
      go_wp2
      go_ret
      exact ⟨ret_int (by simp), hv, DRR w _⟩
  · obtain ⟨g, rfl, hL, hg, _⟩ := hv.cellsZ h0
    have HV := Lib.hid hv
    obtain ⟨n, hnn⟩ : ∃ n, xs.length = n := ⟨_, rfl⟩
    have HN := Lib.hid hnn
    rw [hnn] at hn ⊢
    clear hv h0 hnn
    go_enter Tryd.func20, Tryd.ntmps20
    go_wp2
    go_loopw [1, 5] (fun q i wr => ∃ k : Nat, k ≤ n ∧ i = (.int .i64 k) ∧ q = (.int .i64 (m + k)) ∧ Hid (Gr wr L (.slice (some ⟨g, 0, none⟩) n cap) (part m xs k)) ∧ w.grownBy wr (some g)) (fun _ i _ => n - (intOf i).toNat)
    case atStart => exact ⟨0, Nat.zero_le _, rfl, by simp, Lib.hid (by rw [part_zero, ← HN.out]; exact HV.out), DRR w _⟩
    case round =>
      obtain ⟨k, hk, rfl, rfl, HG, hb⟩ := hrel
      by_cases hlt : k < n
      · have hpl : (part m xs k).length = n := by rw [part_length _ _ _ (by rw [HN.out]; omega)]; exact HN.out
        obtain ⟨g', e, _, _, hc⟩ := HG.out.cellsZ (by omega)
        injection e with e; injection e with e; subst e
        obtain ⟨hx, hf⟩ := hc k hlt
        have HS : Hid (Gr (wr.setCell ⟨g, k, none⟩ (.int .i64 (m + k))) L (.slice (some ⟨g, 0, none⟩) n cap) (part m xs (k + 1))) := Lib.hid (by
          have h1 := HG.out
          have h2 := (show Gr wr L (.slice (some ⟨g, 0, none⟩) (part m xs k).length cap) (part m xs k) by rw [hpl]; exact h1).putZ (k := k) (y := m + k) (by rw [hpl]; exact hlt)
          rw [hpl] at h2
          have e : (part m xs k).set k (m + k) = part m xs (k + 1) := by
            apply List.ext_getElem?
            intro j
            have l1 : (part m xs (k + 1)).length = n := by rw [part_length _ _ _ (by rw [HN.out]; omega)]; exact HN.out
            by_cases hj : j < n
            · have a1 : ((part m xs k).set k (m + k)).getD j 0 = (part m xs (k + 1)).getD j 0 := by
                by_cases ej : j = k
                · subst ej
                  rw [part_get, if_pos (by omega)]
                  simp [List.getD, hpl, hj]
                · have : ((part m xs k).set k (m + k)).getD j 0 = (part m xs k).getD j 0 := by simp [List.getD, List.getElem?_set_ne (Ne.symm ej)]
                  rw [this, part_get, part_get]
                  by_cases h5 : j < k
                  · rw [if_pos h5, if_pos (by omega)]
                  · rw [if_neg h5, if_neg (by omega)]
              rw [List.getElem?_eq_getElem (by simp [hpl, hj]), List.getElem?_eq_getElem (by omega)]
              simpa [List.getD, List.getElem?_eq_getElem (show j < ((part m xs k).set k (m + k)).length by simp [hpl, hj]), List.getElem?_eq_getElem (show j < (part m xs (k + 1)).length by omega)] using a1
            · rw [List.getElem?_eq_none (by simp [hpl]; omega), List.getElem?_eq_none (by omega)]
          rw [e] at h2
          exact h2)
        clear hc hpl
        go_wp2
        go_roundw
        case rel => exact ⟨k + 1, by omega, by go_num, by go_num, HS, World.grownBy.trans hb (setRow wr ⟨g, k, none⟩ _)⟩
        case measure => simp [intOf]; omega
      · have HE2 := Lib.hid (show k = n by omega)
        go_wp2
        go_ret
        refine ⟨ret_int (by rw [HE2.out]), ?_, hb⟩
        have := HG.out
        rw [HE2.out, ← HN.out, part_all] at this
        rw [← HN.out]
        exact this

end Go.Proofs.YtdcomnnpnhinfaaDoor
