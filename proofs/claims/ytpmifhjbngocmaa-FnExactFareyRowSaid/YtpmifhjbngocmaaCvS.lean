/- spec.l03Convergents: contract. -/
import Derived.Test.YtpmifhjbngocmaaCvM
import Derived.Test.YtpmifhjbngocmaaGrFk
import Derived.Test.YtpmifhjbngocmaaMul
namespace Go.Proofs.Ytpmifhjbngocmaa
open Go.ChangeShapes Go.WideShapes Go.ChangeAt Go.RowKit

def okQ (p : Int × Int) : Bool := inW p.1 1000000000 && inW p.2 1000000000
def flatQ (ps : List (Int × Int)) : List Int := ps.flatMap fun p => [p.1, p.2]
theorem flatQ_snoc (ps : List (Int × Int)) (p : Int × Int) : flatQ (ps ++ [p]) = flatQ ps ++ [p.1, p.2] := by simp [flatQ]
theorem flatQ_len (ps : List (Int × Int)) : (flatQ ps).length = 2 * ps.length := by
  induction ps with
  | nil => rfl
  | cons p r ih => simp only [flatQ, List.flatMap_cons, List.length_append, List.length_cons, List.length_nil] at *; omega
theorem ok_prefix {ps qs : List (Int × Int)} (h : ps <+: qs) (hp : ps.all okQ = false) : qs.all okQ = false := by
  obtain ⟨t, rfl⟩ := h
  simp [List.all_append, hp]
theorem Box.of_heapS {w w' : World} {g : Nat} {xs : List Value} (h : Box w g xs) (he : w'.heap[g]? = w.heap[g]?) (hs : w.heap.size ≤ w'.heap.size) : Box w' g xs :=
  ⟨Nat.lt_of_lt_of_le h.1 hs, fun i v hv => ⟨(World.cell?_of_block (a := ⟨g, i, none⟩) he).trans (h.2 i v hv).1, (World.frozen?_of_block (a := ⟨g, i, none⟩) he).trans (h.2 i v hv).2⟩⟩
/-- What l03Convergents gives back. -/
def RetC (r : Bool) (n : Nat) (xs : List Int) (w : World) (e : Ending) (w' : World) : Prop :=
  ((r = true ∧ ∃ v, e = .returned (.tuple #[v, .bool true]) ∧ GrF w' w.heap.size v n xs) ∨ (r = false ∧ e = .returned (.tuple #[.slice none 0 0, .bool false]))) ∧ Below w.heap.size w w'
set_option maxRecDepth 100000 in
set_option maxHeartbeats 4000000 in
theorem specConv (xs : List Int) (hn : xs.length ≤ 1000000) (ad : Option Addr) (cap b off : Nat) (had : 0 < xs.length → ad = some ⟨b, off, none⟩) (r : Bool) (hr : (cvs xs).all okQ = r) (w : World)
    (hc : ∀ k, k < xs.length → b < w.heap.size ∧ w.cell? ⟨b, off + k, none⟩ = some (.int .i64 (xs.getD k 0))) :
    Calls Try.prog 31 #[.slice ad xs.length cap] w (RetC r xs.length (flatQ (cvs xs)) w) := by
  have HR := Lib.hid hr
  have HC := Lib.hid hc
  clear hr hc
  go_enter Try.func31, Try.ntmps31
  go_wp2
  go_loopw [4, 6] (fun v i wr => ∃ k : Nat, k ≤ xs.length ∧ i = (.int .i64 k) ∧ GrF wr w.heap.size v k (flatQ (cvs (xs.take k))) ∧ Hid ((cvs (xs.take k)).all okQ = true) ∧ Below w.heap.size w wr ∧ w.heap.size + 2 ≤ wr.heap.size ∧ TyB wr (w.heap.size + 1) 23 ∧
      Box wr (w.heap.size + 1) [.int .i64 ((cst (xs.take k)).2.1), .int .i64 ((cst (xs.take k)).1.1), .int .i64 ((cst (xs.take k)).2.2), .int .i64 ((cst (xs.take k)).1.2)]) (fun _ i _ => xs.length - (intOf i).toNat)
  case atStart => exact ⟨0, Nat.zero_le _, rfl, GrF.alloc (GrF.madeAt rfl (Nat.le_refl _)) _, Lib.hid rfl, by repeat (first | with_reducible exact own_refl _ | with_reducible assumption | with_reducible apply own_alloc | with_reducible apply own_drewN | with_reducible apply own_drew | ((with_reducible refine own_setCell ?_ ?_ _); rotate_left; focus (first | (simp; done) | (simp; omega))) | (with_reducible (refine own_trans ?_ (by assumption)))), by simp, TyB.newAt (by simp) _ _, Box.newAt (by simp) _ _⟩
  case round =>
    obtain ⟨k, hk, rfl, hG, HO, T, hz, hT, hB⟩ := hrel
    obtain ⟨ad', cap', hv⟩ := hG.shape
    subst hv
    by_cases hlt : k < xs.length
    · obtain ⟨x, hx⟩ : ∃ x, xs.getD k 0 = x := ⟨_, rfl⟩
      obtain ⟨hcv, hcs⟩ := cvs_take xs k hlt x hx
      obtain ⟨hb0, hc0⟩ := HC.out k hlt
      rw [hx] at hc0
      have c1 : wr.cell? ⟨b, off + k, none⟩ = some (.int .i64 x) := (T.cell (p := ⟨b, off + k, none⟩) hb0).trans hc0
      obtain rfl := had (by omega)
      clear hc0 had hx
      generalize hs : cst (xs.take k) = st at *
      obtain ⟨⟨b0, b1⟩, ⟨f0, f1⟩⟩ := st
      simp only at hB
      obtain ⟨_, m0, m1, m2, m3, _, _, _, _⟩ := hB.four
      simp only [stepC] at hcs
      obtain ⟨y0, hy0⟩ : ∃ y0, wrap64 (wrap64 (x * f0) + b0) = y0 := ⟨_, rfl⟩
      obtain ⟨y1, hy1⟩ : ∃ y1, wrap64 (wrap64 (x * f1) + b1) = y1 := ⟨_, rfl⟩
      rw [hy0, hy1] at hcs
      have HCV := Lib.hid hcv
      have HCS := Lib.hid hcs
      have HP := Lib.hid (cvs_prefix xs (k + 1))
      clear hcv hcs
      go_upto_region 5 with fail
      go_quiet (fail)
      rw [hy0, hy1]
      have hB' : Box (wr.drewN nq) (w.heap.size + 1) [.int .i64 f0, .int .i64 b0, .int .i64 f1, .int .i64 b1] := Box.drewN hB nq
      have hG' : GrF (wr.drewN nq) w.heap.size (.slice ad' k cap') k (flatQ (cvs (xs.take k))) := hG
      have hT' : TyB (wr.drewN nq) (w.heap.size + 1) 23 := hT
      have T' : Below w.heap.size w (wr.drewN nq) := below_drewN' T nq
      have hz' : w.heap.size + 2 ≤ (wr.drewN nq).heap.size := hz
      clear hB hG hT T hz m0 m1 m2 m3
      generalize wr.drewN nq = wz at *
      obtain ⟨_, m0, m1, m2, m3, _, _, _, _⟩ := hB'.four
      rcases h1 : inW y0 1000000000 with _ | _
      · have H1 := Lib.hid h1
        have HF : Hid (r = false) := Lib.hid (by rw [← HR.out]; exact ok_prefix HP.out (by rw [HCV.out, HCS.out]; simp [okQ, h1]))
        clear h1
        go_wp2_with fail
        refine (entry_is false _ H1.out _).mono ?_
        rintro e w2 ⟨rfl, rfl⟩
        go_wp2
        go_ret2
        exact ⟨.inr ⟨HF.out, rfl⟩, T'⟩
      rcases h2 : inW y1 1000000000 with _ | _
      · have H1 := Lib.hid h1
        have H2 := Lib.hid h2
        have HF : Hid (r = false) := Lib.hid (by rw [← HR.out]; exact ok_prefix HP.out (by rw [HCV.out, HCS.out]; simp [okQ, h2]))
        clear h1 h2
        go_wp2_with fail
        refine (entry_is true _ H1.out _).mono ?_
        rintro e w2 ⟨rfl, rfl⟩
        go_wp2_with fail
        refine (entry_is false _ H2.out _).mono ?_
        rintro e w2 ⟨rfl, rfl⟩
        go_wp2
        go_ret2
        exact ⟨.inr ⟨HF.out, rfl⟩, T'⟩
      · have H1 := Lib.hid h1
        have H2 := Lib.hid h2
        have HO' : Hid ((cvs (xs.take (k + 1))).all okQ = true) := Lib.hid (by rw [HCV.out, HCS.out]; simp [List.all_append, HO.out, okQ, h1, h2])
        clear h1 h2
        go_wp2_with fail
        refine (entry_is true _ H1.out _).mono ?_
        rintro e w2 ⟨rfl, rfl⟩
        go_wp2_with fail
        refine (entry_is true _ H2.out _).mono ?_
        rintro e w2 ⟨rfl, rfl⟩
        have hap := hG'.apart hT' (by decide)
        have hB2 := hB'.put4 (.int .i64 y0) (.int .i64 f0) (.int .i64 y1) (.int .i64 f1)
        have hG2 := (((hG'.far (p := ⟨w.heap.size + 1, 0, none⟩) hap (.int .i64 y0)).far (p := ⟨w.heap.size + 1, 1, none⟩) hap (.int .i64 f0)).far (p := ⟨w.heap.size + 1, 2, none⟩) hap (.int .i64 y1)).far (p := ⟨w.heap.size + 1, 3, none⟩) hap (.int .i64 f1)
        have hT2 := (((hT'.set ⟨w.heap.size + 1, 0, none⟩ (.int .i64 y0)).set ⟨w.heap.size + 1, 1, none⟩ (.int .i64 f0)).set ⟨w.heap.size + 1, 2, none⟩ (.int .i64 y1)).set ⟨w.heap.size + 1, 3, none⟩ (.int .i64 f1)
        have T2 : Below w.heap.size w ((((wz.setCell ⟨w.heap.size + 1, 0, none⟩ (.int .i64 y0)).setCell ⟨w.heap.size + 1, 1, none⟩ (.int .i64 f0)).setCell ⟨w.heap.size + 1, 2, none⟩ (.int .i64 y1)).setCell ⟨w.heap.size + 1, 3, none⟩ (.int .i64 f1)) := by repeat (first | with_reducible exact own_refl _ | with_reducible assumption | with_reducible apply own_alloc | with_reducible apply own_drewN | with_reducible apply own_drew | ((with_reducible refine own_setCell ?_ ?_ _); rotate_left; focus (first | (simp; done) | (simp; omega))) | (with_reducible (refine own_trans ?_ (by assumption))))
        go_upto_region 9 with fail
        have hz2 : w.heap.size + 2 ≤ ((((wz.setCell ⟨w.heap.size + 1, 0, none⟩ (.int .i64 y0)).setCell ⟨w.heap.size + 1, 1, none⟩ (.int .i64 f0)).setCell ⟨w.heap.size + 1, 2, none⟩ (.int .i64 y1)).setCell ⟨w.heap.size + 1, 3, none⟩ (.int .i64 f1)).heap.size := by simpa using hz'
        generalize ((((wz.setCell ⟨w.heap.size + 1, 0, none⟩ (.int .i64 y0)).setCell ⟨w.heap.size + 1, 1, none⟩ (.int .i64 f0)).setCell ⟨w.heap.size + 1, 2, none⟩ (.int .i64 y1)).setCell ⟨w.heap.size + 1, 3, none⟩ (.int .i64 f1)) = wy at *
        go_wp2_with (at_builtin; refine appFk rfl _ _ rfl w.heap.size wy (.slice ad' k cap') k (flatQ (cvs (xs.take k))) y0 y1 rfl hG2 wy.heap.size rfl rfl (by omega) (by omega) ?_; intro v' w6 hG6 hb6 hs6 hk6)
        have hk7 := hk6 (w.heap.size + 1) hT2.lt hap
        go_roundw
        case rel =>
          refine ⟨k + 1, hlt, by go_num, ?_, HO', T2.trans hb6, by omega, hT2.of_heap hk7, ?_⟩
          · rw [HCV.out, HCS.out, flatQ_snoc]; exact hG6
          · rw [HCS.out]; exact hB2.of_heapS hk7 hs6
        case measure => simp [intOf]; omega
    · have hke : k = xs.length := by omega
      subst hke
      rw [List.take_length] at HO hG
      have HT : Hid (r = true) := Lib.hid (by rw [← HR.out]; exact HO.out)
      go_wp2
      go_ret2
      exact ⟨.inl ⟨HT.out, _, rfl, hG⟩, T⟩
end Go.Proofs.Ytpmifhjbngocmaa
