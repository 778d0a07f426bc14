/- impl.MatrixOfRuns: contract (begun). -/
import Derived.Test.YtpmifhjbngocmaaDoorMkA
import Derived.Test.YtpmifhjbngocmaaDoorAr
import Derived.Test.YtpmifhjbngocmaaDoorRunI
import Derived.Test.YtpmifhjbngocmaaDoorPA
namespace Go.Proofs.YtpmifhjbngocmaaDoor
open Go.ChangeShapes Go.WideShapes Go.ChangeAt Go.RowKit

/-- The matrices of a list of runs, from the i-th on. -/
def runMats : Nat → List Int → List Mat
  | _, [] => []
  | i, x :: r => (if i % 2 = 1 then ⟨1, 0, x, 1⟩ else ⟨1, x, 0, 1⟩) :: runMats (i + 1) r
theorem runMats_len (xs : List Int) : ∀ i, (runMats i xs).length = xs.length := by
  induction xs with
  | nil => intro i; rfl
  | cons x r ih => intro i; simp [runMats, ih]
/-- the flat numbers of matrices -/
def flat (ms : List Mat) : List Int := ms.flatMap fun m => [m.a, m.b, m.c, m.d]
theorem flat_cells (ms : List Mat) : (flat ms).map (Value.int .i64) = matCells ms := by
  induction ms with
  | nil => rfl
  | cons m r ih => simp only [flat, matCells, List.flatMap_cons, List.map_append] at *; rw [ih]; rfl
theorem runMats_is (xs : List Int) : ∀ i, okFrom i xs = true → (runMats i xs).all Mat.is = true := by
  induction xs with
  | nil => intro i _; rfl
  | cons x r ih =>
    intro i h
    simp only [okFrom, Bool.and_eq_true] at h
    have hx := of_decide_eq_true h.1
    simp only [runMats, List.all_cons, ih _ h.2, Bool.and_true]
    have e0 : Ent 0 := by unfold Ent; omega
    have e1 : Ent 1 := by unfold Ent; omega
    have ex : Ent x := by unfold Ent; omega
    have h1 : isM 1 0 x 1 = true := decide_eq_true ⟨e1, e0, ex, e1, by simp⟩
    have h2 : isM 1 x 0 1 = true := decide_eq_true ⟨e1, ex, e0, e1, by simp⟩
    split
    · exact h1
    · exact h2
theorem runMats_step (xs : List Int) (i k : Nat) (hk : k < xs.length) (x : Int) (hx : xs.getD k 0 = x) :
    runMats i (xs.take (k + 1)) = runMats i (xs.take k) ++ [if (i + k) % 2 = 1 then ⟨1, 0, x, 1⟩ else ⟨1, x, 0, 1⟩] := by
  induction xs generalizing i k with
  | nil => simp at hk
  | cons y r ih =>
    cases k with
    | zero => simp at hx; subst hx; simp [runMats]
    | succ k =>
      have h1 : k < r.length := by simpa using hk
      have h2 : r.getD k 0 = x := by simpa using hx
      have := ih (i + 1) k h1 h2
      simp only [List.take_succ_cons, runMats, this, List.cons_append]
      rw [show i + 1 + k = i + (k + 1) by omega]
theorem areRuns_is (r : Bool) (b off cap : Nat) (xs : List Int) (h1 : 1 ≤ xs.length) (hn : xs.length ≤ 100) (hr : runsOk xs = r) (w : World) (hc : ∀ k, k < xs.length → w.cell? ⟨b, off + k, none⟩ = some (.int .i64 (xs.getD k 0))) :
    Calls Tryd.prog 69 #[.slice (some ⟨b, off, none⟩) xs.length cap] w fun e w' => e = .returned (.bool r) ∧ w = w' := hr ▸ areRuns_some b off cap xs h1 hn w hc
theorem flat_snoc (ms : List Mat) (m : Mat) : flat (ms ++ [m]) = flat ms ++ [m.a, m.b, m.c, m.d] := by simp [flat]

theorem GrA.far {w : World} {L n : Nat} {v : Value} {xs : List Int} (h : GrA w L v n xs) {p : Addr} (hp : ∀ g, v.ownBlock = some g → g ≠ p.block) (u : Value) : GrA (w.setCell p u) L v n xs := by
  refine World.ownsRow.kept (row := some p.block) h ⟨rfl, rfl, rfl, by simp [World.setCell], fun k _ hne => Below.heap_setCell w p u k (fun e => hne (by rw [e]))⟩ ?_
  rcases e : v.ownBlock with _ | g
  · exact .inl rfl
  · exact .inr (fun he => hp g e (by injection he))
theorem GrA.box {w : World} {L n : Nat} {v : Value} {ms : List Mat} (h : GrA w L v n (flat ms)) (h0 : 0 < n) : ∃ g cap, v = .slice (some ⟨g, 0, none⟩) n cap ∧ L ≤ g ∧ Box w g (matCells ms) := by
  have hs := h.sl
  obtain ⟨hl, _, a, cap, rfl, hc⟩ := hs
  obtain ⟨g, rfl, hg, hlt, hcell⟩ := hc h0
  refine ⟨g, cap, rfl, hg, hlt, fun i u hu => ?_⟩
  rw [← flat_cells, List.getElem?_map] at hu
  have hi : i < (flat ms).length := by
    rcases Nat.lt_or_ge i (flat ms).length with h | h
    · exact h
    · rw [List.getElem?_eq_none h] at hu; cases hu
  have := hcell i (by omega)
  rw [List.getElem?_eq_getElem hi] at hu
  injection hu with hu
  subst hu
  simpa [List.getD, List.getElem?_eq_getElem hi] using this
set_option maxRecDepth 100000 in
set_option maxHeartbeats 4000000 in
theorem implMor_some (b off cap : Nat) (xs : List Int) (h1 : 1 ≤ xs.length) (hn : xs.length ≤ 100) (hok : runsOk xs = true) (r : Mat) (kd : Int) (hPA : PA (runMats 0 xs) r kd) (w : World) (hid : Idn w)
    (hb : b < w.heap.size) (hc : ∀ k, k < xs.length → w.cell? ⟨b, off + k, none⟩ = some (.int .i64 (xs.getD k 0))) :
    Calls Tryd.prog 38 #[.slice (some ⟨b, off, none⟩) xs.length cap] w fun e w' => e = .returned (.tuple #[(.agg #[.int .i64 r.a, .int .i64 r.b, .int .i64 r.c, .int .i64 r.d]), (.int .i64 kd)]) ∧ Below w.heap.size w w' := by
  have HP := Lib.hid hPA
  have HC := Lib.hid hc
  have HOK := Lib.hid hok
  obtain ⟨cur, hcur, hmk⟩ := makeA xs.length (by omega)
  have HCUR := Lib.hid hcur
  have hcW : ∀ k, k < xs.length → (w.alloc (.cells #[.int .i64 0, .int .i64 0, .int .i64 0, .int .i64 0] 25)).cell? ⟨b, off + k, none⟩ = some (.int .i64 (xs.getD k 0)) := fun k hk => ((own_alloc (own_refl w) _).cell (p := ⟨b, off + k, none⟩) hb).trans (hc k hk)
  have HCW := Lib.hid hcW
  clear hPA hc hok hcur hcW
  go_enter Tryd.func38, Tryd.ntmps38
  go_wp2_with fail
  refine (areRuns_is true b off cap xs h1 hn HOK.out _ HCW.out).mono ?_
  rintro e w1 ⟨rfl, rfl⟩
  go_wp2
  go_loopw [4, 17] (fun v i wr => ∃ k : Nat, k ≤ xs.length ∧ i = (.int .i64 k) ∧ GrA wr (w.heap.size + 1) v k (flat (runMats 0 (xs.take k))) ∧ Below w.heap.size w wr ∧ w.heap.size + 1 ≤ wr.heap.size ∧ Box wr w.heap.size [.int .i64 0, .int .i64 0, .int .i64 0, .int .i64 0]) (fun _ i _ => xs.length - (intOf i).toNat)
  case atStart => exact ⟨0, Nat.zero_le _, rfl, GrA.madeCap (by simp) (Nat.le_refl _) HCUR.out (by omega), by repeat (first | with_reducible exact own_refl _ | with_reducible assumption | with_reducible apply own_alloc | with_reducible apply own_drewN | with_reducible apply own_drew | ((with_reducible refine own_setCell ?_ ?_ _); rotate_left; focus (first | (simp; done) | (simp; omega))) | (with_reducible (refine own_trans ?_ (by assumption)))), by simp, Box.alloc (Box.new _ _ _) _⟩
  case round =>
    obtain ⟨k, hk, rfl, hG, T, hz, hR⟩ := hrel
    obtain ⟨ad, cp, hv⟩ := hG.shape
    subst hv
    by_cases hlt : k < xs.length
    · obtain ⟨x, hx⟩ : ∃ x, xs.getD k 0 = x := ⟨_, rfl⟩
      have c1 : wr.cell? ⟨b, off + k, none⟩ = some (.int .i64 x) := by rw [T.cell (p := ⟨b, off + k, none⟩) hb, ← hx]; exact HC.out k hlt
      have HS := Lib.hid (runMats_step xs 0 k hlt x hx)
      clear hx
      rcases (show k % 2 = 0 ∨ k % 2 = 1 by omega) with hp | hp
      · have hp2 : (k : Int).tmod 2 = 0 := by rw [Int.tmod_eq_emod_of_nonneg (by omega)]; omega
        have HF : Hid (flat (runMats 0 (xs.take (k + 1))) = flat (runMats 0 (xs.take k)) ++ [1, x, 0, 1]) := Lib.hid (by rw [HS.out, if_neg (by omega), flat_snoc])
        clear hp
        go_wp2_with fail
        refine (powerOfT_any _ _).mono ?_
        rintro e w2 ⟨rfl, hb2⟩
        have T2 := own_trans T hb2
        have G2 := (hG.own hb2).alloc (.cells #[.int .i64 1, .int .i64 x, .int .i64 0, .int .i64 1] 25)
        have R2 := (hR.below hb2).alloc (.cells #[.int .i64 1, .int .i64 x, .int .i64 0, .int .i64 1] 25)
        have hz2 := Nat.le_trans hz hb2.size
        go_wp2_with (at_builtin; refine appA rfl _ _ rfl (w.heap.size + 1) (w2.alloc (.cells #[.int .i64 1, .int .i64 x, .int .i64 0, .int .i64 1] 25)) (.slice ad k cp) k _ 1 x 0 1 rfl G2 (w2.heap.size + 1) rfl (by simp) (by omega) (by simp; omega) ?_; intro v' w3 hG3 hb3)
        go_roundw
        case rel => exact ⟨k + 1, by omega, by go_num, by rw [HF.out]; exact hG3, (own_alloc T2 _).trans (hb3.mono (Nat.le_succ _)), Nat.le_trans (Nat.le_succ_of_le hz2) (by have := hb3.size; simpa using this), R2.low hb3 (Nat.lt_succ_self _)⟩
        case measure => simp [intOf]; omega
      · have hp2 : (k : Int).tmod 2 = 1 := by rw [Int.tmod_eq_emod_of_nonneg (by omega)]; omega
        have HF : Hid (flat (runMats 0 (xs.take (k + 1))) = flat (runMats 0 (xs.take k)) ++ [1, 0, x, 1]) := Lib.hid (by rw [HS.out, if_pos (by omega), flat_snoc])
        clear hp
        go_wp2_with fail
        refine (powerOfT_any _ _).mono ?_
        rintro e w2 ⟨rfl, hb2⟩
        have T2 := own_alloc (own_trans T hb2) (.cells #[.int .i64 1, .int .i64 x, .int .i64 0, .int .i64 1] 25)
        have G2 := (hG.own hb2).alloc (.cells #[.int .i64 1, .int .i64 x, .int .i64 0, .int .i64 1] 25)
        have R2 := (hR.below hb2).alloc (.cells #[.int .i64 1, .int .i64 x, .int .i64 0, .int .i64 1] 25)
        have B2 := Box.new w2 [.int .i64 1, .int .i64 x, .int .i64 0, .int .i64 1] 25
        have hz2 := Nat.le_trans hz hb2.size
        go_wp2_with fail
        refine (turnAbout_any _ _ _ _ _).mono ?_
        rintro e w3 ⟨rfl, hb3⟩
        have T3 := own_trans T2 hb3
        have G3 := G2.own hb3
        have R3 := R2.below hb3
        have B3 := B2.below hb3
        obtain ⟨_, _, _, _, _, _, _, _, _⟩ := B3.four
        have hz3 : w.heap.size + 1 ≤ w3.heap.size := Nat.le_of_lt (Nat.lt_of_le_of_lt hz2 B3.1)
        have hgl : w.heap.size + 1 ≤ w2.heap.size := hz2
        have hne : ∀ g, (Value.slice ad k cp).ownBlock = some g → g ≠ w2.heap.size := fun g h => by have := (World.ownsRow.lt hG g h).2; have := hb2.size; omega
        have hn0 : w.heap.size ≠ w2.heap.size := by omega
        have hl0 : w.heap.size ≤ w2.heap.size := by omega
        go_upto_region 10 with fail
        have G4 : GrA ((((w3.setCell ⟨w2.heap.size, 0, none⟩ (.int .i64 1)).setCell ⟨w2.heap.size, 1, none⟩ (.int .i64 0)).setCell ⟨w2.heap.size, 2, none⟩ (.int .i64 x)).setCell ⟨w2.heap.size, 3, none⟩ (.int .i64 1)) (w.heap.size + 1) (.slice ad k cp) k (flat (runMats 0 (xs.take k))) := (((G3.far hne _).far hne _).far hne _).far hne _
        have R4 : Box ((((w3.setCell ⟨w2.heap.size, 0, none⟩ (.int .i64 1)).setCell ⟨w2.heap.size, 1, none⟩ (.int .i64 0)).setCell ⟨w2.heap.size, 2, none⟩ (.int .i64 x)).setCell ⟨w2.heap.size, 3, none⟩ (.int .i64 1)) w.heap.size [.int .i64 0, .int .i64 0, .int .i64 0, .int .i64 0] := (((R3.far hn0 _).far hn0 _).far hn0 _).far hn0 _
        have B4 : Box ((((w3.setCell ⟨w2.heap.size, 0, none⟩ (.int .i64 1)).setCell ⟨w2.heap.size, 1, none⟩ (.int .i64 0)).setCell ⟨w2.heap.size, 2, none⟩ (.int .i64 x)).setCell ⟨w2.heap.size, 3, none⟩ (.int .i64 1)) w2.heap.size [.int .i64 1, .int .i64 0, .int .i64 x, .int .i64 1] := B3.put4 _ _ _ _
        have T4 : Below w.heap.size w ((((w3.setCell ⟨w2.heap.size, 0, none⟩ (.int .i64 1)).setCell ⟨w2.heap.size, 1, none⟩ (.int .i64 0)).setCell ⟨w2.heap.size, 2, none⟩ (.int .i64 x)).setCell ⟨w2.heap.size, 3, none⟩ (.int .i64 1)) := by repeat (first | with_reducible exact own_refl _ | with_reducible assumption | with_reducible apply own_alloc | with_reducible apply own_drewN | with_reducible apply own_drew | ((with_reducible refine own_setCell ?_ ?_ _); rotate_left; focus (first | (simp; done) | (simp; omega))) | (with_reducible (refine own_trans ?_ (by assumption))))
        have hz4 : w.heap.size + 1 ≤ ((((w3.setCell ⟨w2.heap.size, 0, none⟩ (.int .i64 1)).setCell ⟨w2.heap.size, 1, none⟩ (.int .i64 0)).setCell ⟨w2.heap.size, 2, none⟩ (.int .i64 x)).setCell ⟨w2.heap.size, 3, none⟩ (.int .i64 1)).heap.size := by simpa [World.setCell] using hz3
        clear T3 G3 R3 B3 hb3 T2 G2 R2 B2 hb2
        generalize ((((w3.setCell ⟨w2.heap.size, 0, none⟩ (.int .i64 1)).setCell ⟨w2.heap.size, 1, none⟩ (.int .i64 0)).setCell ⟨w2.heap.size, 2, none⟩ (.int .i64 x)).setCell ⟨w2.heap.size, 3, none⟩ (.int .i64 1)) = w4 at G4 R4 B4 T4 hz4 ⊢
        obtain ⟨_, _, _, _, _, _, _, _, _⟩ := B4.four
        go_wp2_with (at_builtin; refine appA rfl _ _ rfl (w.heap.size + 1) w4 (.slice ad k cp) k _ 1 0 x 1 rfl G4 w4.heap.size rfl rfl (by omega) hz4 ?_; intro v' w5 hG5 hb5)
        go_roundw
        case rel => exact ⟨k + 1, by omega, by go_num, by rw [HF.out]; exact hG5, T4.trans (hb5.mono (Nat.le_succ _)), Nat.le_trans hz4 hb5.size, R4.low hb5 (Nat.lt_succ_self _)⟩
        case measure => simp [intOf]; omega
    · have hke : k = xs.length := by omega
      have HG : Hid (GrA wr (w.heap.size + 1) (.slice ad k cp) k (flat (runMats 0 xs))) := Lib.hid (by rw [hke, List.take_length] at hG; rw [hke]; exact hG)
      obtain ⟨g, cp', hv, hgL, hBx⟩ := HG.out.box (by omega)
      injection hv with hv1 hv2 hv3
      subst hv1 hv3
      have HB := Lib.hid hBx
      have hlen : (runMats 0 xs).length = k := by rw [runMats_len, hke]
      have HCT := Lib.hid (fun w (h : Idn w) (hb : Box w g (matCells (runMats 0 xs))) => prodAll_any (runMats 0 xs) g cp (by omega) r kd HP.out w h hb)
      rw [hlen] at HCT
      obtain ⟨_, d0, d1, d2, d3, _, _, _, _⟩ := hR.four
      have HKE := Lib.hid hke
      clear hke hBx hlen hG
      go_wp2_with fail
      refine (HCT.out _ (Rd.below hid T) HB.out).mono ?_
      rintro e w4 ⟨rfl, hb4⟩
      obtain ⟨_, d0, d1, d2, d3, _, _, _, _⟩ := (hR.below hb4).four
      go_wp2
      exact bodyPost_ret (v := .tuple #[(.agg #[.int .i64 r.a, .int .i64 r.b, .int .i64 r.c, .int .i64 r.d]), (.int .i64 kd)]) (by simp [results, Tryd.results38, go_sem, d0, d1, d2, d3]) rfl ⟨rfl, by repeat (first | with_reducible exact own_refl _ | with_reducible assumption | with_reducible apply own_alloc | with_reducible apply own_drewN | with_reducible apply own_drew | ((with_reducible refine own_setCell ?_ ?_ _); rotate_left; focus (first | (simp; done) | (simp; omega))) | (with_reducible (refine own_trans ?_ (by assumption))))⟩
end Go.Proofs.YtpmifhjbngocmaaDoor
