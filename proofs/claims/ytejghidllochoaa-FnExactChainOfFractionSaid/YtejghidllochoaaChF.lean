/- ChainOfFraction: contracts of both sides. -/
import Derived.Test.YtejghidllochoaaApS
import Derived.Test.YtejghidllochoaaCvO
import Derived.Test.YtejghidllochoaaCfS
import Derived.Test.YtejghidllochoaaIsF
import Derived.Test.YtejghidllochoaaDet
import Derived.Test.YtejghidllochoaaSS
namespace Go.Proofs.Ytejghidllochoaa
open Go.ChangeShapes Go.WideShapes Go.ChangeAt Go.RowKit

theorem wrapEq (x : Int) : IntKind.i64.wrap x = wrap64 x := by simp [IntKind.wrap_i64, wrap64]
theorem isF_isC (r : Bool) (p q : Int) (h : isF p q = r) (w : World) : Calls Try.prog 18 #[(.agg #[.int .i64 p, .int .i64 q])] w fun e w' => e = .returned (.bool r) ∧ Below w.heap.size w w' := h ▸ implIsF_any p q w
theorem chainFun (ad : Option Addr) (m cap : Nat) (w : World) :
    Calls Try.prog 20 #[.slice ad m cap] w fun e w' => e = .returned (.func (.func 37) #[] #[.pointer (some ⟨w.heap.size, 0, none⟩)]) ∧ w' = w.alloc (.cells #[.slice ad m cap] 31) := by
  go_enter Try.func20, Try.ntmps20
  go_wp2
  go_ret
  exact ⟨rfl, rfl⟩
/-- the chain, flat -/
def chQ (xs : List Int) : List Int := [1, 0] ++ flatQ (cvs xs)
/-- What ChainOfFraction gives. -/
def RetQ (n : Nat) (xs : List Int) (k : Int) (w : World) (e : Ending) (w' : World) : Prop :=
  ∃ v, e = .returned (.tuple #[v, (.int .i64 k)]) ∧ SlF w' w.heap.size w'.heap.size v n xs ∧ Below w.heap.size w w'
theorem implCh_no (p q : Int) (h : isF p q = false) (w : World) : Calls Try.prog 7 #[(.agg #[.int .i64 p, .int .i64 q])] w (RetQ 0 [] 1 w) := by
  have H := Lib.hid h
  clear h
  go_enter Try.func7, Try.ntmps7
  go_wp2_with fail
  refine (isF_isC false _ _ H.out _).mono ?_
  rintro e w1 ⟨rfl, hb1⟩
  go_wp2
  go_ret2
  exact ⟨_, rfl, (GrF.nil _ _).sl, by repeat (first | with_reducible exact own_refl _ | with_reducible assumption | with_reducible apply own_alloc | with_reducible apply own_drewN | with_reducible apply own_drew | ((with_reducible refine own_setCell ?_ ?_ _); rotate_left; focus (first | (simp; done) | (simp; omega))) | (with_reducible (refine own_trans ?_ (by assumption))))⟩
theorem one_frac (w : World) (L : Nat) (hL : L ≤ w.heap.size) : GrF (w.alloc (.cells #[.int .i64 1, .int .i64 0] 26)) L (.slice (some ⟨w.heap.size, 0, none⟩) 1 1) 1 [1, 0] :=
  World.ownsRow_lit w #[.int .i64 1, .int .i64 0] 1 hL (by unfold maxLen; omega) rfl
theorem implCh_inf (p q : Int) (h : isF p q = true) (hq : q = 0) (w : World) : Calls Try.prog 7 #[(.agg #[.int .i64 p, .int .i64 q])] w (RetQ 1 [1, 0] 0 w) := by
  subst hq
  have H := Lib.hid h
  clear h
  go_enter Try.func7, Try.ntmps7
  go_wp2_with fail
  refine (isF_isC true _ _ H.out _).mono ?_
  rintro e w1 ⟨rfl, hb1⟩
  have A1 : Box w1 w.heap.size [.int .i64 p, .int .i64 0] := Box.below (Box.new _ _ _) hb1
  have T1 : Below w.heap.size w w1 := by repeat (first | with_reducible exact own_refl _ | with_reducible assumption | with_reducible apply own_alloc | with_reducible apply own_drewN | with_reducible apply own_drew | ((with_reducible refine own_setCell ?_ ?_ _); rotate_left; focus (first | (simp; done) | (simp; omega))) | (with_reducible (refine own_trans ?_ (by assumption))))
  have G1 := one_frac w1 w.heap.size T1.size
  have A2 := A1.alloc (.cells #[.int .i64 1, .int .i64 0] 26)
  obtain ⟨_, _, _, _, _⟩ := A2.two
  go_wp2
  go_ret2
  exact ⟨_, rfl, G1.sl, own_alloc T1 _⟩
set_option maxHeartbeats 1000000 in
theorem implCh_yes (p q : Int) (h : isF p q = true) (hq : 0 < q) (xs : List Int) (hx : cfL q.natAbs p q = xs) (hn : xs.length ≤ 1000000) (w : World) : Calls Try.prog 7 #[(.agg #[.int .i64 p, .int .i64 q])] w (RetQ (1 + xs.length) (chQ xs) 0 w) := by
  have H := Lib.hid h
  have hE := isF_ent h
  have HQ := Lib.hid (fun w => (hx ▸ implCf_any q.natAbs p q hE.1 hE.2.1 hq (Nat.le_refl _) (by have := hE.2.1; unfold Ent at this; omega) w : Calls Try.prog 21 #[(.agg #[.int .i64 p, .int .i64 q])] w fun e w' => ∃ v, e = .returned v ∧ Gr w' (w.heap.size + 1) v xs ∧ Below w.heap.size w w'))
  have hq0 : (q == 0) = false := by simp; omega
  have hx0 : 0 < xs.length := by
    rw [← hx]
    obtain ⟨k, n, r, e1, _, _, _, _, _, _, h2, _⟩ := cf_round hq hE.1 hE.2.1 (Nat.le_refl q.natAbs)
    rw [h2.out]
    simp
  clear h hE hq hx
  go_enter Try.func7, Try.ntmps7
  go_wp2_with fail
  refine (isF_isC true _ _ H.out _).mono ?_
  rintro e w1 ⟨rfl, hb1⟩
  have A1 : Box w1 w.heap.size [.int .i64 p, .int .i64 q] := Box.below (Box.new _ _ _) hb1
  have T1 : Below w.heap.size w w1 := by repeat (first | with_reducible exact own_refl _ | with_reducible assumption | with_reducible apply own_alloc | with_reducible apply own_drewN | with_reducible apply own_drew | ((with_reducible refine own_setCell ?_ ?_ _); rotate_left; focus (first | (simp; done) | (simp; omega))) | (with_reducible (refine own_trans ?_ (by assumption))))
  have G1 := one_frac w1 w.heap.size T1.size
  have A2 := A1.alloc (.cells #[.int .i64 1, .int .i64 0] 26)
  obtain ⟨_, _, _, _, _⟩ := A2.two
  go_wp2_with fail
  refine (HQ.out _).mono ?_
  rintro e w2 ⟨v, rfl, hG, hb2⟩
  have T2 : Below w.heap.size w w2 := own_trans (own_alloc T1 _) hb2
  have G2 := G1.own hb2
  obtain ⟨ad, cap, rfl⟩ := hG.shape
  obtain ⟨gq, rfl, hgq, hgq2, hcell⟩ := hG.cellsZ hx0
  simp only [World.size_alloc] at hgq
  have HCL := Lib.hid hcell
  clear hcell hG
  go_wp2_with fail
  refine (chainFun _ _ _ _).mono ?_
  rintro e w3 ⟨rfl, rfl⟩
  have HA := Lib.hid (appendSeq_on (fun _ _ => by kernel_rfl) (w2.alloc (.cells #[.slice (some ⟨gq, 0, none⟩) xs.length cap] 31)) (convSeq xs hn (some ⟨gq, 0, none⟩) cap w2.heap.size gq 0 (fun _ => rfl) (fun k => k = gq) rfl _ (Box.new _ _ _) (fun k hk => ⟨by simp; omega, by rw [Nat.zero_add]; exact ((own_alloc (own_refl w2) _).cell (p := ⟨gq, k, none⟩) hgq2).trans (HCL.out k hk).1⟩)) (fun k hk => by simp; omega) (fun pre x h => by
    have := h.length_le; rw [List.length_append, cvs_len] at this; omega) (.slice (some ⟨w1.heap.size, 0, none⟩) 1 1) w.heap.size w1.heap.size 1 [1, 0] (by omega) T1.size rfl (by omega) (G2.alloc _))
  go_wp2_with fail
  refine HA.out.mono ?_
  rintro e w4 ⟨v4, ys, rfl, rfl, hG4, hb4⟩
  rw [cvs_len] at hG4
  go_wp2
  go_ret2
  exact ⟨v4, rfl, hG4.sl, (own_alloc T2 _).trans hb4⟩
/-- the chain is bounded -/
theorem cst_okQ {xs done : List Int} {n : Int} (hall : (cvs xs).all okQ = true) (hp : done ++ [n] <+: xs) : Ent (cst (done ++ [n])).2.1 ∧ Ent (cst (done ++ [n])).2.2 := by
  obtain ⟨t, rfl⟩ := hp
  have h1 : cvs (done ++ [n]) <+: cvs (done ++ [n] ++ t) := by
    have := cvs_prefix (done ++ [n] ++ t) (done ++ [n]).length
    rwa [List.take_left] at this
  have h2 : (cst (done ++ [n])).2 ∈ cvs (done ++ [n] ++ t) := h1.subset (by rw [cvs_snoc]; simp)
  have h3 := List.all_eq_true.1 hall _ h2
  simpa [okQ, inW, Ent] using h3
set_option maxRecDepth 100000 in
set_option maxHeartbeats 4000000 in
theorem l08Chain_is (p0 q0 : Int) (h : isF p0 q0 = true) (xs : List Int) (hx : cfL q0.natAbs p0 q0 = xs) (w : World) :
    Calls Try.prog 17 #[(.agg #[.int .i64 p0, .int .i64 q0])] w fun e w' => ∃ v, e = .returned v ∧ GrF w' w.heap.size v (1 + xs.length) (chQ xs) ∧ Below w.heap.size w w' := by
  have hE := isF_ent h
  have hall := cv_fine q0.natAbs p0 q0 hE.1 hE.2.1 hE.2.2.1
  rw [hx] at hall
  have HA := Lib.hid hall
  have HX := Lib.hid hx
  have HE0 := Lib.hid (show Ent p0 ∧ Ent q0 ∧ 0 ≤ q0 from ⟨hE.1, hE.2.1, hE.2.2.1⟩)
  have hF : q0.natAbs ≤ 1000000000 := by have := hE.2.1; unfold Ent at this; omega
  clear h hE hall hx
  go_enter Try.func17, Try.ntmps17
  go_wp2
  have G1 : GrF ((w.alloc (.cells #[.int .i64 p0, .int .i64 q0] 26)).alloc (.cells #[.int .i64 1, .int .i64 0] 26)) w.heap.size (.slice (some ⟨w.heap.size + 1, 0, none⟩) 1 1) 1 [1, 0] := by
    have := one_frac (w.alloc (.cells #[.int .i64 p0, .int .i64 q0] 26)) w.heap.size (by simp)
    rwa [World.size_alloc] at this
  have T1 : Below w.heap.size w ((w.alloc (.cells #[.int .i64 p0, .int .i64 q0] 26)).alloc (.cells #[.int .i64 1, .int .i64 0] 26)) := by repeat (first | with_reducible exact own_refl _ | with_reducible assumption | with_reducible apply own_alloc | with_reducible apply own_drewN | with_reducible apply own_drew | ((with_reducible refine own_setCell ?_ ?_ _); rotate_left; focus (first | (simp; done) | (simp; omega))) | (with_reducible (refine own_trans ?_ (by assumption))))
  have A1 : Box ((w.alloc (.cells #[.int .i64 p0, .int .i64 q0] 26)).alloc (.cells #[.int .i64 1, .int .i64 0] 26)) w.heap.size [.int .i64 p0, .int .i64 q0] := Box.alloc (Box.new _ _ _) _
  generalize (w.alloc (.cells #[.int .i64 p0, .int .i64 q0] 26)).alloc (.cells #[.int .i64 1, .int .i64 0] 26) = W at *
  obtain ⟨_, _, _, _, _⟩ := A1.two
  go_upto_region 4 with fail
  go_quiet (fail)
  have G1 : GrF (W.drewN nq) w.heap.size (.slice (some ⟨w.heap.size + 1, 0, none⟩) 1 1) 1 [1, 0] := G1
  have T1 : Below w.heap.size w (W.drewN nq) := below_drewN' T1 nq
  clear A1
  generalize W.drewN nq = W2 at *
  go_wp2
  go_loopw [3, 4, 5, 6, 7, 8, 9] (fun v a b c d x y wr => ∃ (done : List Int) (f : Nat) (b0 b1 f0 f1 p q : Int), a = (.int .i64 b0) ∧ b = (.int .i64 b1) ∧ c = (.int .i64 f0) ∧ d = (.int .i64 f1) ∧ x = (.int .i64 p) ∧ y = (.int .i64 q) ∧ Hid (xs = done ++ cfL f p q) ∧ Hid (cst done = ((b0, b1), (f0, f1))) ∧ Hid (Ent p ∧ Ent q ∧ 0 ≤ q) ∧ Hid (Ent b0 ∧ Ent b1 ∧ Ent f0 ∧ Ent f1) ∧ Hid (q.natAbs ≤ f) ∧ f + done.length ≤ q0.natAbs ∧ GrF wr w.heap.size v (1 + done.length) (chQ done) ∧ Below w.heap.size w wr) (fun v _ _ _ _ _ _ _ => q0.natAbs + 1 - lenOf v)
  case atStart => exact ⟨[], q0.natAbs, 0, 1, 1, 0, p0, q0, rfl, rfl, rfl, rfl, rfl, rfl, Lib.hid HX.out.symm, Lib.hid rfl, HE0, Lib.hid (by unfold Ent; omega), Lib.hid (Nat.le_refl _), by simp, G1, T1⟩
  case round =>
    obtain ⟨done, f, b0, b1, f0, f1, p, q, rfl, rfl, rfl, rfl, rfl, rfl, HL, HC, HE, HB, HF, hlen, hG, T⟩ := hrel
    obtain ⟨ad, cap, hv⟩ := hG.shape
    subst hv
    by_cases hq0 : 0 < q
    · obtain ⟨k, n, r, hfk, hnn, hr, en, r1, r2, er, H1, H2⟩ := cf_round hq0 HE.out.1 HE.out.2.1 HF.out
      have hpre : done ++ [n] <+: xs := by rw [HL.out, H1.out]; exact ⟨cfL k q r, by simp⟩
      have hok := cst_okQ HA.out hpre
      have hst : cst (done ++ [n]) = ((f0, f1), stepC (b0, b1) (f0, f1) n) := by rw [cst_snoc, HC.out]
      have hcv : cvs (done ++ [n]) = cvs done ++ [(cst (done ++ [n])).2] := cvs_snoc done n
      obtain ⟨y0, hy0⟩ : ∃ y0, wrap64 (wrap64 (n * f0) + b0) = y0 := ⟨_, rfl⟩
      obtain ⟨y1, hy1⟩ : ∃ y1, wrap64 (wrap64 (n * f1) + b1) = y1 := ⟨_, rfl⟩
      have hst2 : stepC (b0, b1) (f0, f1) n = (y0, y1) := by unfold stepC; rw [hy0, hy1]
      rw [hst2] at hst
      rw [hst] at hok hcv
      have HST := Lib.hid hst
      have HCV : Hid (chQ (done ++ [n]) = chQ done ++ [y0, y1]) := Lib.hid (by unfold chQ; rw [hcv, flatQ_snoc, List.append_assoc])
      have HOK := Lib.hid hok
      have HN := Lib.hid hnn
      have HK := Lib.hid hfk
      have HQ := Lib.hid hq0
      have h2 := Lib.hid H2
      have HL2 : Hid (xs = (done ++ [n]) ++ cfL k q r) := Lib.hid (by rw [HL.out, H1.out]; simp)
      have hqne : (q != 0) = true := by simp; omega
      have hb1 : -2000000000 ≤ n * q ∧ n * q ≤ 2000000000 := by have h1 := HE.out.1; have h2 := HE.out.2.1; unfold Ent at h1 h2; omega
      obtain ⟨_, _⟩ := hb1
      have HP := HE.out.1
      unfold Ent at HP er en
      obtain ⟨_, _⟩ := HP
      obtain ⟨_, _⟩ := er
      obtain ⟨_, _⟩ := en
      have hwy0 : IntKind.i64.wrap (IntKind.i64.wrap (n * f0) + b0) = y0 := by rw [wrapEq, wrapEq, hy0]
      have hwy1 : IntKind.i64.wrap (IntKind.i64.wrap (n * f1) + b1) = y1 := by rw [wrapEq, wrapEq, hy1]
      clear hfk hnn H2 hpre hok hst hcv hst2
      go_wp2_with fail
      refine (floorE_is p q n HN.out HQ.out HE.out.1 HE.out.2.1 _).mono ?_
      rintro e w2 ⟨rfl, rfl⟩
      have hz := T.size
      have hGa := hG.alloc (.cells #[.int .i64 y0, .int .i64 y1] 26)
      have hBn : Box (wr.alloc (.cells #[.int .i64 y0, .int .i64 y1] 26)) wr.heap.size [.int .i64 y0, .int .i64 y1] := Box.new _ _ _
      have hTa := own_alloc T (.cells #[.int .i64 y0, .int .i64 y1] 26)
      have HCL := Lib.hid hG
      clear hG
      go_upto_region 7 with fail
      have hzn : (wr.alloc (.cells #[.int .i64 y0, .int .i64 y1] 26)).heap.size = wr.heap.size + 1 := by simp
      generalize wr.alloc (.cells #[.int .i64 y0, .int .i64 y1] 26) = wn at *
      obtain ⟨_, _, _, _, _⟩ := hBn.two
      go_wp2_with (at_builtin; refine appF rfl _ _ rfl w.heap.size wn (.slice ad (1 + done.length) cap) (1 + done.length) (chQ done) y0 y1 rfl hGa (wr.heap.size + 1) rfl hzn (by have := HK.out; omega) (by omega) ?_; intro v' w6 hG6 hb6)
      go_roundw
      case rel => exact ⟨done ++ [n], k, f0, f1, y0, y1, q, r, rfl, rfl, rfl, rfl, rfl, rfl, HL2, HST, Lib.hid ⟨HE.out.2.1, by unfold Ent; omega, r1⟩, Lib.hid ⟨HB.out.2.2.1, HB.out.2.2.2, HOK.out.1, HOK.out.2⟩, h2, by have := HK.out; simp; omega, by rw [HCV.out, List.length_append, ← Nat.add_assoc]; exact hG6, hTa.trans hb6⟩
      case measure =>
        obtain ⟨a', c', hv'⟩ := hG6.shape
        have := HK.out
        rw [hv']
        simp [lenOf]
        omega
    · obtain rfl : q = 0 := by have := HE.out.2.2; omega
      have HEQ : Hid (xs = done) := Lib.hid (by rw [HL.out, cf_zero, List.append_nil])
      go_wp2
      go_ret
      rw [HEQ.out]
      exact ⟨_, rfl, hG, T⟩
theorem specCh_no (p q : Int) (h : isF p q = false) (w : World) : Calls Try.prog 5 #[(.agg #[.int .i64 p, .int .i64 q])] w (RetQ 0 [] 1 w) := by
  have H := Lib.hid h
  clear h
  go_enter Try.func5, Try.ntmps5
  go_wp2_with fail
  refine (l03F_is false _ _ H.out _).mono ?_
  rintro e w1 ⟨rfl, hb1⟩
  go_wp2
  go_ret2
  exact ⟨_, rfl, (GrF.nil _ _).sl, by repeat (first | with_reducible exact own_refl _ | with_reducible assumption | with_reducible apply own_alloc | with_reducible apply own_drewN | with_reducible apply own_drew | ((with_reducible refine own_setCell ?_ ?_ _); rotate_left; focus (first | (simp; done) | (simp; omega))) | (with_reducible (refine own_trans ?_ (by assumption))))⟩
theorem specCh_yes (p q : Int) (h : isF p q = true) (xs : List Int) (hx : cfL q.natAbs p q = xs) (w : World) : Calls Try.prog 5 #[(.agg #[.int .i64 p, .int .i64 q])] w (RetQ (1 + xs.length) (chQ xs) 0 w) := by
  have H := Lib.hid h
  have HC := Lib.hid (fun w => l08Chain_is p q h xs hx w)
  clear h hx
  go_enter Try.func5, Try.ntmps5
  go_wp2_with fail
  refine (l03F_is true _ _ H.out _).mono ?_
  rintro e w1 ⟨rfl, hb1⟩
  have T1 : Below w.heap.size w w1 := by repeat (first | with_reducible exact own_refl _ | with_reducible assumption | with_reducible apply own_alloc | with_reducible apply own_drewN | with_reducible apply own_drew | ((with_reducible refine own_setCell ?_ ?_ _); rotate_left; focus (first | (simp; done) | (simp; omega))) | (with_reducible (refine own_trans ?_ (by assumption))))
  have A1 : Box w1 w.heap.size [.int .i64 p, .int .i64 q] := Box.below (Box.new _ _ _) hb1
  obtain ⟨_, _, _, _, _⟩ := A1.two
  go_wp2_with fail
  refine (HC.out _).mono ?_
  rintro e w2 ⟨v, rfl, hG, hb2⟩
  go_wp2
  go_ret2
  exact ⟨v, rfl, hG.sl.weak T1.size, own_trans T1 hb2⟩
end Go.Proofs.Ytejghidllochoaa
