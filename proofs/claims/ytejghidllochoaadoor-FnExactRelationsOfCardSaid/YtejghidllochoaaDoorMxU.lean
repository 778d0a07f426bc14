/- The laws' helpers over slices of slices of integers, however their rows lie. -/
import Derived.Test.YtejghidllochoaaDoorRlI
import Derived.Test.YtejghidllochoaaDoorGw
namespace Go.Proofs.YtejghidllochoaaDoor
open Go.ChangeShapes Go.WideShapes Go.ChangeAt Go.RowKit

/-- The slice v has m rows, which read as told; all its memory lies below U. -/
def MixU (w : World) (U : Nat) (v : Value) (m : Nat) (vs : Nat → Value) (f : Nat → List Int) : Prop :=
  U ≤ w.heap.size ∧ (∃ ad cap, v = .slice ad m cap ∧ (0 < m → ∃ g, ad = some ⟨g, 0, none⟩ ∧ g < U ∧ ∀ k, k < m → w.cell? ⟨g, k, none⟩ = some (vs k))) ∧ ∀ k, k < m → Sl w 0 U (vs k) (f k)
theorem MixU.below {w w' : World} {U m : Nat} {v : Value} {vs : Nat → Value} {f : Nat → List Int} (h : MixU w U v m vs f) (hb : Below U w w') : MixU w' U v m vs f := by
  obtain ⟨h0, ⟨ad, cap, rfl, h1⟩, h2⟩ := h
  refine ⟨Nat.le_trans h0 hb.size, ⟨ad, cap, rfl, fun hm => ?_⟩, fun k hk => (h2 k hk).below hb⟩
  obtain ⟨g, e, hg, hc⟩ := h1 hm
  exact ⟨g, e, hg, fun k hk => (hb.cell (p := ⟨g, k, none⟩) hg).trans (hc k hk)⟩
theorem MixU.own {w w' : World} {U m : Nat} {v : Value} {vs : Nat → Value} {f : Nat → List Int} (h : MixU w U v m vs f) (hb : Below w.heap.size w w') : MixU w' U v m vs f := h.below (hb.mono h.1)
theorem Sl.low {w : World} {L L' U : Nat} {v : Value} {xs : List Int} (h : Sl w L U v xs) (hL : L' ≤ L) : Sl w L' U v xs := by
  obtain ⟨h0, a, cap, e, hc⟩ := h
  refine ⟨h0, a, cap, e, fun hn => ?_⟩
  obtain ⟨g, off, e1, e2, e3⟩ := hc hn
  exact ⟨g, off, e1, Nat.le_trans hL e2, e3⟩
theorem GrW.mixU {w : World} {L m : Nat} {v : Value} {vs : List Value} {xss : List (List Int)} {f : Nat → List Int} (h : GrW w L v vs xss) (hm : xss.length = m) (hf : ∀ j, j < m → xss.getD j [] = f j) : MixU w w.heap.size v m (fun k => vs.getD k rowZ) f := by
  subst hm
  obtain ⟨ad, cap, rfl⟩ := h.shape
  refine ⟨Nat.le_refl _, ⟨ad, cap, rfl, fun hn => ?_⟩, fun k hk => ?_⟩
  · obtain ⟨g, e, hg, hc⟩ := h.cells hn
    exact ⟨g, e, hg, fun k hk => hc k _ (by have : k < vs.length := by rw [h.2.1]; exact hk
                                            simp [List.getD, List.getElem?_eq_getElem this])⟩
  · rw [← hf k hk]
    exact (h.2.2 k hk).sl.low (Nat.zero_le _)
theorem Flat.mixU {w : World} {L g N M : Nat} {v : Value} {xs : List Int} {f : Nat → List Int} (h : Flat w L v g N M xs) (hR : RowsF xs N M f) (hl : ∀ j, j < M → (f j).length = N) (hM : 0 < M) (hN : 0 < N) : MixU w w.heap.size v M (rowV g N) f := by
  obtain ⟨h0, cap, rfl, _, h2, _, h3⟩ := h.shape hM
  refine ⟨Nat.le_refl _, ⟨_, cap, rfl, fun _ => ⟨h0, rfl, h2, h3⟩⟩, fun k hk => ?_⟩
  have hT := idx_lt (N := N) hM hN
  obtain ⟨_, hg, hc⟩ := h.cells (by omega)
  refine ⟨Nat.le_refl _, _, N, by rw [hl k hk]; rfl, fun _ => ⟨g, k * N, rfl, Nat.zero_le _, hg, fun i hi => ?_⟩⟩
  rw [hl k hk] at hi
  rw [← hR k hk i hi]
  exact hc _ (idx_lt hk hi)

set_option maxHeartbeats 1000000 in
theorem eqSSU (v u : Value) (m U U' : Nat) (vs us : Nat → Value) (f : Nat → List Int) (w : World) (hn : m ≤ 1000000) (hM : ∀ k, k < m → (f k).length ≤ 1000000) (hv : MixU w U v m vs f) (hu : MixU w U' u m us f) :
    Calls Tryd.prog 12 #[v, u] w fun e w' => e = .returned (.bool true) ∧ Below w.heap.size w w' := by
  obtain ⟨z, ⟨ad, cap, rfl, hc⟩, hr⟩ := hv
  obtain ⟨z', ⟨ad', cap', rfl, hc'⟩, hr'⟩ := hu
  have HV := Lib.hid hc
  have HU := Lib.hid hc'
  have HR := Lib.hid hr
  have HR' := Lib.hid hr'
  have HM := Lib.hid hM
  clear hc hc' hr hr' hM
  go_enter Tryd.func12, Tryd.ntmps12
  go_wp2
  go_loopw [5] (fun i wr => ∃ k : Nat, k ≤ m ∧ i = (.int .i64 k) ∧ Below w.heap.size w wr) (fun i _ => m - (intOf i).toNat)
  case atStart => exact ⟨0, Nat.zero_le _, rfl, own_refl _⟩
  case round =>
    obtain ⟨k, hk, rfl, hb⟩ := hrel
    by_cases hlt : k < m
    · obtain ⟨g, rfl, hg, hcg⟩ := HV.out (by omega)
      obtain ⟨g', rfl, hg', hcg'⟩ := HU.out (by omega)
      have c1 := (hb.cell (p := ⟨g, k, none⟩) (show g < _ by omega)).trans (hcg k hlt)
      have c2 := (hb.cell (p := ⟨g', k, none⟩) (show g' < _ by omega)).trans (hcg' k hlt)
      have R1 := Lib.hid ((HR.out k hlt).own hb)
      have R2 := Lib.hid ((HR'.out k hlt).own hb)
      have hrl := HM.out k hlt
      have gl : g < wr.heap.size := by have := hb.size; omega
      have gl' : g' < wr.heap.size := by have := hb.size; omega
      generalize vs k = r1 at *
      generalize us k = r2 at *
      generalize f k = xs at *
      clear hcg hcg'
      go_wp2_with fail
      go_region_held3 (fun w' => w'.cell? ⟨g, k, none⟩ = some r1 ∧ w'.cell? ⟨g', k, none⟩ = some r2) (go_keep)
        (first | (go_at_call 22; refine (eqS_same _ _ xs _ _ _ _ _ (by omega) (R1.out.below (below_drewN' (Below.refl _ _) 1)) (R2.out.below (below_drewN' (Below.refl _ _) 1))).mono ?_; rintro e w1 ⟨rfl, hb1⟩; have T1 := own_trans (own_drew hb) hb1; have k1 : w1.cell? ⟨g, k, none⟩ = some r1 := (hb1.cell (p := ⟨g, k, none⟩) gl).trans c1; have k2 : w1.cell? ⟨g', k, none⟩ = some r2 := (hb1.cell (p := ⟨g', k, none⟩) gl').trans c2; clear hb1))
      all_goals
        go_wp2
        go_roundw
        case rel => exact ⟨k + 1, by omega, by go_num, T1⟩
        case measure => simp [intOf]; omega
    · go_wp2
      go_ret
      exact ⟨rfl, hb⟩

/-- j marks from o on -/
def fillR (xs : List Int) (o : Nat) (m : Int) : Nat → List Int
  | 0 => xs
  | j + 1 => (fillR xs o m j).set (o + j) (m + j)
theorem fillR_len (xs : List Int) (o : Nat) (m : Int) : ∀ j : Nat, (fillR xs o m j).length = xs.length
  | 0 => rfl
  | j + 1 => by rw [fillR, List.length_set, fillR_len xs o m j]
theorem fillR_get (xs : List Int) (o : Nat) (m : Int) (q : Nat) : ∀ j : Nat, o + j ≤ xs.length → (fillR xs o m j).getD q 0 = if o ≤ q ∧ q < o + j then m + ((q - o : Nat) : Int) else xs.getD q 0
  | 0, _ => by rw [if_neg (by omega)]; rfl
  | j + 1, h => by
    have ih := fillR_get xs o m q j (by omega)
    rw [fillR]
    by_cases e : q = o + j
    · subst e
      rw [if_pos (by omega)]
      have hl := fillR_len xs o m j
      simp [List.getD, show o + j < (fillR xs o m j).length by omega]
    · have e2 : ((fillR xs o m j).set (o + j) (m + j)).getD q 0 = (fillR xs o m j).getD q 0 := by simp [List.getD, List.getElem?_set_ne (Ne.symm e)]
      rw [e2, ih]
      by_cases h2 : o ≤ q ∧ q < o + j
      · rw [if_pos h2, if_pos (by omega)]
      · rw [if_neg h2, if_neg (by omega)]
theorem RowsF.fill {xs : List Int} {N M j : Nat} {f : Nat → List Int} {m : Int} (h : RowsF xs N M f) (hl : xs.length = M * N) (hj : j < M) : RowsF (fillR xs (j * N) m N) N M (fun q => if q = j then ramp m N else f q) := by
  intro a ha i hi
  have hjN : j * N + N ≤ xs.length := by
    rw [hl]
    have h1 : (j + 1) * N ≤ M * N := Nat.mul_le_mul_right N hj
    rw [Nat.add_mul] at h1
    omega
  rw [fillR_get _ _ _ _ _ hjN]
  by_cases e : a = j
  · subst e
    rw [if_pos (by omega)]
    dsimp only
    rw [if_pos rfl, ramp_get _ _ _ hi]
    omega
  · rw [if_neg]
    · dsimp only
      rw [if_neg e]
      exact h a ha i hi
    · rintro ⟨h1, h2⟩
      have h3 : j * N + (a * N + i - j * N) = a * N + i := by omega
      exact e (idx_row hi (show a * N + i - j * N < N by omega) h3.symm).1
set_option maxHeartbeats 1000000 in
theorem markRow (xs : List Int) (m : Int) (g o cap T N L : Nat) (w : World) (hT : xs.length = T) (hoN : o + N ≤ T) (hTb : T ≤ 1000000) (hm : 0 ≤ m) (hm' : m ≤ 4294967296) (hv : Gr w L (.slice (some ⟨g, 0, none⟩) T cap) xs) :
    Calls Tryd.prog 27 #[.slice (some ⟨g, o, none⟩) N N, (.int .i64 m)] w fun e w' => e = .returned (.int .i64 (m + N)) ∧ Gr w' L (.slice (some ⟨g, 0, none⟩) T cap) (fillR xs o m N) ∧ w.grownBy w' (some g) := by
  have HV := Lib.hid hv
  have HT := Lib.hid hT
  clear hv hT
  go_enter Tryd.func27, Tryd.ntmps27
  go_wp2
  go_loopw [1, 5] (fun q i wr => ∃ k : Nat, k ≤ N ∧ i = (.int .i64 k) ∧ q = (.int .i64 (m + k)) ∧ Hid (Gr wr L (.slice (some ⟨g, 0, none⟩) T cap) (fillR xs o m k)) ∧ w.grownBy wr (some g)) (fun _ i _ => N - (intOf i).toNat)
  case atStart => exact ⟨0, Nat.zero_le _, rfl, by simp, HV, DRR w _⟩
  case round =>
    obtain ⟨k, hk, rfl, rfl, HG, hb⟩ := hrel
    by_cases hlt : k < N
    · have hpl : (fillR xs o m k).length = T := by rw [fillR_len]; exact HT.out
      obtain ⟨g', e, _, _, hc⟩ := HG.out.cellsZ (by omega)
      injection e with e; injection e with e; subst e
      obtain ⟨hx, hf⟩ := hc (o + k) (by omega)
      have HS : Hid (Gr (wr.setCell ⟨g, o + k, none⟩ (.int .i64 (m + k))) L (.slice (some ⟨g, 0, none⟩) T cap) (fillR xs o m (k + 1))) := Lib.hid (by
        have h2 := (show Gr wr L (.slice (some ⟨g, 0, none⟩) (fillR xs o m k).length cap) (fillR xs o m k) by rw [hpl]; exact HG.out).putZ (k := o + k) (y := m + k) (by rw [hpl]; omega)
        rw [hpl] at h2
        exact h2)
      have HW : Hid (w.grownBy (wr.setCell ⟨g, o + k, none⟩ (.int .i64 (m + k))) (some g)) := Lib.hid (World.grownBy.trans hb (setRow wr ⟨g, o + k, none⟩ (.int .i64 (m + k))))
      clear hc
      go_wp2
      go_roundw
      case rel => exact ⟨k + 1, by omega, by go_num, by go_num, HS, HW.out⟩
      case measure => simp [intOf]; omega
    · obtain rfl : k = N := by omega
      go_wp2
      go_ret
      exact ⟨rfl, HG.out, hb⟩
/-- the marks of a row -/
def mkF (N k : Nat) : List Int := ramp (1 + (k * N : Nat)) N
set_option maxRecDepth 100000 in
set_option maxHeartbeats 1000000 in
theorem markFlat (xs : List Int) (v : Value) (g N M T L : Nat) (f : Nat → List Int) (w : World) (hT : M * N = T) (hM : 0 < M) (hN : 0 < N) (hTb : T ≤ 1000000) (hM2 : M ≤ 1000000) (hF : Flat w L v g N M xs) (hR : RowsF xs N M f) :
    Calls Tryd.prog 13 #[v, (.int .i64 1)] w fun e w' => e = .returned (.int .i64 (1 + (T : Int))) ∧ (∃ ys, Flat w' L v g N M ys ∧ RowsF ys N M (mkF N)) ∧ w.grownBy w' (some g) := by
  obtain ⟨h0, cap, rfl, _, hl0, hne, hrows⟩ := hF.shape hM
  have HF := Lib.hid hF
  have HR := Lib.hid hR
  have HC := Lib.hid hrows
  have HT := Lib.hid hT
  clear hF hR hrows hT
  go_enter Tryd.func13, Tryd.ntmps13
  go_wp2
  go_loopw [1, 5] (fun q i wr => ∃ (k : Nat) (x : Nat) (ys : List Int), k ≤ M ∧ i = (.int .i64 k) ∧ q = (.int .i64 (1 + (x : Int))) ∧ Hid (k * N = x) ∧ Hid (Flat wr L (.slice (some ⟨h0, 0, none⟩) M cap) g N M ys) ∧ Hid (RowsF ys N M (fun j => if j < k then mkF N j else f j)) ∧ w.grownBy wr (some g)) (fun _ i _ => M - (intOf i).toNat)
  case atStart => exact ⟨0, 0, xs, Nat.zero_le _, rfl, by simp, Lib.hid (by simp), HF, Lib.hid (HR.out.congr fun j _ => by rw [if_neg (by omega)]), DRR w _⟩
  case round =>
    obtain ⟨k, x, ys, hk, rfl, rfl, HX, HG, HY, hg⟩ := hrel
    by_cases hlt : k < M
    · have c1 := (grown_cell (o := k) hg hl0 hne).trans (HC.out k hlt)
      simp only [rowV] at c1
      have hx := HX.out
      have hb := idx_lt (N := N) (M := M) (j := k) (i := N - 1) hlt (by omega)
      rw [hx] at c1 hb
      have hT := HT.out
      have hkT : x + N ≤ T := by omega
      have hF2 := HG.out.flat
      rw [hT] at hF2
      have HY2 : Hid (RowsF (fillR ys x (1 + (x : Int)) N) N M (fun j => if j < k + 1 then mkF N j else f j)) := Lib.hid (by
        have := HY.out.fill (m := 1 + (x : Int)) HG.out.len hlt
        rw [hx] at this
        refine this.congr fun j hj => ?_
        by_cases e : j = k
        · subst e
          rw [if_pos rfl, if_pos (by omega), mkF, hx]
        · rw [if_neg e]
          by_cases e2 : j < k
          · rw [if_pos e2, if_pos (by omega)]
          · rw [if_neg e2, if_neg (by omega)])
      have HX2 : Hid ((k + 1) * N = x + N) := Lib.hid (by rw [Nat.add_mul, hx]; omega)
      have HFL := Lib.hid (fun w hv => markRow ys (1 + (x : Int)) g x T T N L w (by rw [← hT]; exact HG.out.len) hkT hTb (by omega) (by omega) hv)
      have HF2 := Lib.hid hF2
      clear hx hb hF2
      go_wp2_with fail
      refine (HFL.out _ HF2.out).mono ?_
      rintro e w1 ⟨rfl, hG1, hg1⟩
      have hF3 : Flat w1 L (.slice (some ⟨h0, 0, none⟩) M cap) g N M (fillR ys x (1 + (x : Int)) N) := HG.out.put hg1 (by rw [HT.out]; exact hG1) (by rw [fillR_len]; exact HG.out.len)
      obtain ⟨y, hy⟩ : ∃ y : Nat, x + N = y := ⟨_, rfl⟩
      have hyI : 1 + (x : Int) + (N : Int) = 1 + (y : Int) := by omega
      rw [hyI]
      rw [hy] at HX2
      have HF3 := Lib.hid hF3
      have HG3 := Lib.hid (World.grownBy.trans hg hg1)
      clear hF3 hG1 hT hyI
      go_wp2
      go_roundw
      case rel => exact ⟨k + 1, y, _, by omega, by go_num, rfl, HX2, HF3, HY2, HG3.out⟩
      case measure => simp [intOf]; omega
    · obtain rfl : k = M := by omega
      have HE : Hid (x = T) := Lib.hid (by rw [← HX.out, HT.out])
      go_wp2
      go_ret
      exact ⟨ret_int (by rw [HE.out]), ⟨ys, HG.out, HY.out.congr fun j hj => by rw [if_pos (by omega)]⟩, hg⟩
set_option maxRecDepth 100000 in
set_option maxHeartbeats 1000000 in
theorem heldFlat (v : Value) (vs : Nat → Value) (N M T U : Nat) (w : World) (hT : M * N = T) (hTb : T ≤ 1000000) (hM2 : M ≤ 1000000) (hN2 : N ≤ 1000000) (hv : MixU w U v M vs (mkF N)) :
    Calls Tryd.prog 14 #[v, (.int .i64 1)] w fun e w' => e = .returned (.int .i64 (1 + (T : Int))) ∧ w = w' := by
  obtain ⟨z, ⟨ad, cap, rfl, hc⟩, hr⟩ := hv
  have HV := Lib.hid hc
  have HR := Lib.hid hr
  have HT := Lib.hid hT
  clear hc hr hT
  go_enter Tryd.func14, Tryd.ntmps14
  go_wp2
  go_loopw [1, 5] (fun q i wr => ∃ (k : Nat) (x : Nat), k ≤ M ∧ i = (.int .i64 k) ∧ q = (.int .i64 (1 + (x : Int))) ∧ Hid (k * N = x) ∧ w = wr) (fun _ i _ => M - (intOf i).toNat)
  case atStart => exact ⟨0, 0, Nat.zero_le _, rfl, by simp, Lib.hid (by simp), rfl⟩
  case round =>
    obtain ⟨k, x, hk, rfl, rfl, HX, rfl⟩ := hrel
    by_cases hlt : k < M
    · obtain ⟨g, rfl, hg, hcg⟩ := HV.out (by omega)
      have c1 := hcg k hlt
      have hrow := HR.out k hlt
      have hx := HX.out
      have HX2 : Hid ((k + 1) * N = x + N) := Lib.hid (by rw [Nat.add_mul, hx]; omega)
      have hxT : x + N ≤ T := by
        have h1 : (k + 1) * N ≤ M * N := Nat.mul_le_mul_right N hlt
        rw [Nat.add_mul, hx, HT.out] at h1
        omega
      rw [mkF, hx] at hrow
      have HRW := Lib.hid hrow
      generalize vs k = r at *
      clear hx hrow hcg
      go_wp2_with fail
      refine (heldS_ramp r (1 + (x : Int)) N _ _ _ (by omega) (by omega) (by omega) HRW.out).mono ?_
      rintro e w1 ⟨rfl, rfl⟩
      obtain ⟨y, hy⟩ : ∃ y : Nat, x + N = y := ⟨_, rfl⟩
      have hyI : 1 + (x : Int) + (N : Int) = 1 + (y : Int) := by omega
      rw [hyI]
      rw [hy] at HX2
      clear hyI
      go_wp2
      go_roundw
      case rel => exact ⟨k + 1, y, by omega, by go_num, rfl, HX2, by trivial⟩
      case measure => simp [intOf]; omega
    · obtain rfl : k = M := by omega
      have HE : Hid (x = T) := Lib.hid (by rw [← HX.out, HT.out])
      go_wp2
      go_ret
      exact ⟨ret_int (by rw [HE.out]), rfl⟩
end Go.Proofs.YtejghidllochoaaDoor
