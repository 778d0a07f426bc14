/- ConvergentsOf: contracts of both sides. -/
import Derived.Test.YtpmifhjbngocmaaDoorCol
import Derived.Test.YtpmifhjbngocmaaDoorCvO
import Derived.Test.YtpmifhjbngocmaaDoorCont
namespace Go.Proofs.YtpmifhjbngocmaaDoor
open Go.ChangeShapes Go.WideShapes Go.ChangeAt Go.RowKit

def RetFq (n : Nat) (xs : List Int) (k : Int) (w : World) (e : Ending) (w' : World) : Prop :=
  ∃ v, e = .returned (.tuple #[v, (.int .i64 k)]) ∧ SlF w' w.heap.size w'.heap.size v n xs ∧ Below w.heap.size w w'
theorem convFunD (ad : Option Addr) (m cap : Nat) (w : World) :
    Calls Tryd.prog 49 #[.slice ad m cap] w fun e w' => e = .returned (.func (.func 78) #[] #[.pointer (some ⟨w.heap.size, 0, none⟩)]) ∧ w' = w.alloc (.cells #[.slice ad m cap] 54) := by
  go_enter Tryd.func49, Tryd.ntmps49
  go_wp2
  go_ret
  exact ⟨rfl, rfl⟩
theorem collect_conv (xs : List Int) (hn : xs.length ≤ 1000000) (ad : Option Addr) (cap cb b off : Nat) (had : 0 < xs.length → ad = some ⟨b, off, none⟩) (w : World) (hb : b < w.heap.size)
    (hB : Box w cb [.slice ad xs.length cap]) (hc : ∀ k, k < xs.length → w.cell? ⟨b, off + k, none⟩ = some (.int .i64 (xs.getD k 0))) :
    Calls Tryd.prog 48 #[.func (.func 78) #[] #[.pointer (some ⟨cb, 0, none⟩)]] w fun e w' => ∃ v, e = .returned v ∧ GrF w' w.heap.size v xs.length (flatQ (cvs xs)) ∧ Below w.heap.size w w' := by
  have HA := Lib.hid (appendSeq_is (fun _ _ => by kernel_rfl) w (convSeq xs hn ad cap cb b off had (fun k => k = b) rfl w hB (fun k hk => ⟨hb, hc k hk⟩)) (fun k hk => by omega) (fun pre x h => by
    have := h.length_le; rw [List.length_append, cvs_len] at this; omega))
  go_enter Tryd.func48, Tryd.ntmps48
  go_wp2_with fail
  refine HA.out.mono ?_
  rintro e w1 ⟨v, ys, rfl, rfl, hG, hb1⟩
  rw [cvs_len] at hG
  go_wp2
  go_ret
  exact ⟨v, rfl, hG, hb1⟩
set_option maxHeartbeats 1000000 in
theorem implConv_is (p q : Int) (xs : List Int) (hn : xs.length ≤ 1000000) (c : Int) (w : World) (hcont : ∀ w', Below w.heap.size w w' → Calls Tryd.prog 47 #[(.agg #[.int .i64 p, .int .i64 q])] w' (RetS xs c w')) :
    Calls Tryd.prog 21 #[(.agg #[.int .i64 p, .int .i64 q])] w (RetFq xs.length (flatQ (cvs xs)) c w) := by
  have HC := Lib.hid hcont
  clear hcont
  go_enter Tryd.func21, Tryd.ntmps21
  go_wp2_with fail
  refine (HC.out _ (by repeat (first | with_reducible exact own_refl _ | with_reducible assumption | with_reducible apply own_alloc | with_reducible apply own_drewN | with_reducible apply own_drew | ((with_reducible refine own_setCell ?_ ?_ _); rotate_left; focus (first | (simp; done) | (simp; omega))) | (with_reducible (refine own_trans ?_ (by assumption)))))).mono ?_
  rintro e w1 ⟨v, rfl, hS, hb1⟩
  have T1 : Below w.heap.size w w1 := by repeat (first | with_reducible exact own_refl _ | with_reducible assumption | with_reducible apply own_alloc | with_reducible apply own_drewN | with_reducible apply own_drew | ((with_reducible refine own_setCell ?_ ?_ _); rotate_left; focus (first | (simp; done) | (simp; omega))) | (with_reducible (refine own_trans ?_ (by assumption))))
  obtain ⟨hu, ad, cap, rfl, hc⟩ := hS
  obtain ⟨b, off, hb, had, hcell⟩ : ∃ b off, b < w1.heap.size ∧ (0 < xs.length → ad = some ⟨b, off, none⟩) ∧ ∀ k, k < xs.length → w1.cell? ⟨b, off + k, none⟩ = some (.int .i64 (xs.getD k 0)) := by
    rcases Nat.eq_zero_or_pos xs.length with h | h
    · exact ⟨w.heap.size, 0, by have := hb1.size; simp at this; omega, fun h' => by omega, fun k hk => by omega⟩
    · obtain ⟨g, off, rfl, _, hg, hr⟩ := hc h
      exact ⟨g, off, Nat.lt_of_lt_of_le hg hu, fun _ => rfl, fun k hk => (hr k hk).1⟩
  have HCL := Lib.hid hcell
  clear hc hcell
  go_wp2_with fail
  refine (convFunD _ _ _ _).mono ?_
  rintro e w2 ⟨rfl, rfl⟩
  go_wp2_with fail
  refine (collect_conv xs hn ad cap w1.heap.size b off had _ (by simp; omega) (Box.new _ _ _) (fun k hk => ((own_alloc (own_refl w1) _).cell (p := ⟨b, off + k, none⟩) hb).trans (HCL.out k hk))).mono ?_
  rintro e w3 ⟨v, rfl, hG, hb3⟩
  go_wp2
  go_ret2
  exact ⟨v, rfl, hG.sl.weak (by have := T1.size; simp; omega), by repeat (first | with_reducible exact own_refl _ | with_reducible assumption | with_reducible apply own_alloc | with_reducible apply own_drewN | with_reducible apply own_drew | ((with_reducible refine own_setCell ?_ ?_ _); rotate_left; focus (first | (simp; done) | (simp; omega))) | (with_reducible (refine own_trans ?_ (by assumption))))⟩
set_option maxHeartbeats 1000000 in
theorem specConv_no (p q : Int) (h : isF p q = false) (w : World) : Calls Tryd.prog 20 #[(.agg #[.int .i64 p, .int .i64 q])] w (RetFq 0 [] 1 w) := by
  have H := Lib.hid h
  clear h
  go_enter Tryd.func20, Tryd.ntmps20
  go_wp2_with fail
  refine (l03F_is false _ _ H.out _).mono ?_
  rintro e w1 ⟨rfl, hb1⟩
  go_wp2
  go_ret2
  exact ⟨_, rfl, SlF.nil _ _ _ (Nat.le_refl _), by repeat (first | with_reducible exact own_refl _ | with_reducible assumption | with_reducible apply own_alloc | with_reducible apply own_drewN | with_reducible apply own_drew | ((with_reducible refine own_setCell ?_ ?_ _); rotate_left; focus (first | (simp; done) | (simp; omega))) | (with_reducible (refine own_trans ?_ (by assumption))))⟩
set_option maxHeartbeats 1000000 in
theorem specConv_inf (p q : Int) (h : isF p q = true) (hq : q = 0) (w : World) : Calls Tryd.prog 20 #[(.agg #[.int .i64 p, .int .i64 q])] w (RetFq 0 [] 5 w) := by
  subst hq
  have H := Lib.hid h
  clear h
  go_enter Tryd.func20, Tryd.ntmps20
  go_wp2_with fail
  refine (l03F_is true _ _ H.out _).mono ?_
  rintro e w1 ⟨rfl, hb1⟩
  have A1 : Box w1 w.heap.size [.int .i64 p, .int .i64 0] := Box.below (Box.new _ _ _) hb1
  obtain ⟨_, _, _, _, _⟩ := A1.two
  go_wp2
  go_ret2
  exact ⟨_, rfl, SlF.nil _ _ _ (Nat.le_refl _), by repeat (first | with_reducible exact own_refl _ | with_reducible assumption | with_reducible apply own_alloc | with_reducible apply own_drewN | with_reducible apply own_drew | ((with_reducible refine own_setCell ?_ ?_ _); rotate_left; focus (first | (simp; done) | (simp; omega))) | (with_reducible (refine own_trans ?_ (by assumption))))⟩
set_option maxHeartbeats 1000000 in
theorem specConv_yes (p q : Int) (h : isF p q = true) (hq : 0 < q) (xs : List Int) (hx : cfL q.natAbs p q = xs) (hn : xs.length ≤ 1000000) (w : World) : Calls Tryd.prog 20 #[(.agg #[.int .i64 p, .int .i64 q])] w (RetFq xs.length (flatQ (cvs xs)) 0 w) := by
  have H := Lib.hid h
  have HE := Lib.hid (isF_ent h)
  have HQ := Lib.hid (show 0 ≤ q by omega)
  have HX := Lib.hid hx
  have hq0 : (q == 0) = false := by simp; omega
  have HF := Lib.hid (show q.natAbs ≤ 1000000000 by have := HE.out.2.1; unfold Ent at this; omega)
  clear h hq hx
  go_enter Tryd.func20, Tryd.ntmps20
  go_wp2_with fail
  refine (l03F_is true _ _ H.out _).mono ?_
  rintro e w1 ⟨rfl, hb1⟩
  have A1 : Box w1 w.heap.size [.int .i64 p, .int .i64 q] := Box.below (Box.new _ _ _) hb1
  obtain ⟨_, _, _, _, _⟩ := A1.two
  go_wp2_with fail
  refine (specCf_any q.natAbs p q HE.out.1 HE.out.2.1 HQ.out (Nat.le_refl _) HF.out _).mono ?_
  rintro e w2 ⟨v, rfl, hG, hb2⟩
  rw [HX.out] at hG
  have T2 : Below w.heap.size w w2 := by repeat (first | with_reducible exact own_refl _ | with_reducible assumption | with_reducible apply own_alloc | with_reducible apply own_drewN | with_reducible apply own_drew | ((with_reducible refine own_setCell ?_ ?_ _); rotate_left; focus (first | (simp; done) | (simp; omega))) | (with_reducible (refine own_trans ?_ (by assumption))))
  obtain ⟨hu, ad, cap, rfl, hc⟩ := hG.sl
  obtain ⟨b, off, hb, had, hcell⟩ : ∃ b off, b < w2.heap.size ∧ (0 < xs.length → ad = some ⟨b, off, none⟩) ∧ ∀ k, k < xs.length → w2.cell? ⟨b, off + k, none⟩ = some (.int .i64 (xs.getD k 0)) := by
    rcases Nat.eq_zero_or_pos xs.length with h | h
    · exact ⟨w.heap.size, 0, by have := A1.1; have := hb2.size; omega, fun h' => by omega, fun k hk => by omega⟩
    · obtain ⟨g, off, rfl, _, hg, hr⟩ := hc h
      exact ⟨g, off, Nat.lt_of_lt_of_le hg hu, fun _ => rfl, fun k hk => (hr k hk).1⟩
  have HCV := Lib.hid (specConv xs hn ad cap b off had true (by rw [← HX.out]; exact cv_fine q.natAbs p q HE.out.1 HE.out.2.1 HQ.out) w2 (fun k hk => ⟨hb, hcell k hk⟩))
  clear hc hcell hG
  go_wp2_with fail
  refine HCV.out.mono ?_
  rintro e w3 ⟨⟨_, v, rfl, hG⟩ | ⟨hr, _⟩, hb3⟩
  · go_wp2
    go_ret2
    exact ⟨v, rfl, hG.sl.weak T2.size, by repeat (first | with_reducible exact own_refl _ | with_reducible assumption | with_reducible apply own_alloc | with_reducible apply own_drewN | with_reducible apply own_drew | ((with_reducible refine own_setCell ?_ ?_ _); rotate_left; focus (first | (simp; done) | (simp; omega))) | (with_reducible (refine own_trans ?_ (by assumption))))⟩
  · cases hr
end Go.Proofs.YtpmifhjbngocmaaDoor
