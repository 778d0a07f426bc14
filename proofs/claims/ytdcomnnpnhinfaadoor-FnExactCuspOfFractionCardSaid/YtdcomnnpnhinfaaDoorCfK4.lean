/- impl.convergents: the iterator's contract. What the row's list gives: the package's table 'identity' holds its four numbers. What is known of the package's error: an interface value with a pointer in it. impl.mustBeFractions: contracts for one and for two fractions. Contracts of determinants of two fractions. Continued fractions are short: mathematics. What stays where a loop's books and an iterator's boxes turn. impl.matrixTo: contract. -/
import Derived.Test.YtdcomnnpnhinfaaDoorCfK3
import Derived.Test.YtdcomnnpnhinfaaDoorRfL
import Derived.Sort.CutIn
import Derived.Sort.QuietIn
import Derived.Test.YtdcomnnpnhinfaaDoorPA
import Derived.Lib.LaidTab
import Derived.Deep.DeepHandedRow
import Derived.Test.YtdcomnnpnhinfaaDoorBase
import Derived.LaidLaws
import Derived.LaidSub
import Derived.Test.YtdcomnnpnhinfaaDoorCfK2
import Derived.Test.YtdcomnnpnhinfaaDoorAbs
import Derived.Maps.AppendAt
import Derived.Test.YtdcomnnpnhinfaaDoorSS
/- impl.convergents: the iterator's contract. -/
namespace Go.Proofs.YtdcomnnpnhinfaaDoor
open Go.ChangeShapes Go.WideShapes Go.ChangeAt Go.RowKit Go.Shelf
attribute [local go_sem] Oper.semAt_some

theorem Box.of_heap {w w' : World} {g : Nat} {xs : List Value} (h : Box w g xs) (he : w'.heap[g]? = w.heap[g]?) (hs : w.heap.size ≤ w'.heap.size) : Box w' g xs :=
  ⟨Nat.lt_of_lt_of_le h.1 hs, fun i v hv => ⟨(World.cell?_of_block (a := ⟨g, i, none⟩) he).trans (h.2 i v hv).1, (World.frozen?_of_block (a := ⟨g, i, none⟩) he).trans (h.2 i v hv).2⟩⟩
def encF (x : Int × Int) : Array Value := #[(.agg #[.int .i64 x.1, .int .i64 x.2])]
theorem OwnC.set {β : Type} {B U : Nat} {J : β → World → Prop} (h : OwnC B U J) {s : β} {W : World} (hs : J s W) {p : Addr} (h1 : B ≤ p.block) (h2 : p.block < U) (v : Value) : J s (W.setCell p v) :=
  h s W _ (some p.block) hs ⟨rfl, rfl, rfl, by simp [World.setCell], fun k _ hk => Below.heap_setCell W p v k (fun e => hk (by rw [e]))⟩ (fun r e => by cases e; exact ⟨h1, h2⟩)
theorem OwnC.alloc {β : Type} {B U : Nat} {J : β → World → Prop} (h : OwnC B U J) {s : β} {W : World} (hs : J s W) (o : Obj) : J s (W.alloc o) :=
  h s W _ none hs (World.grownBy_alloc W o none) (fun r e => by cases e)
theorem OwnC.drew {β : Type} {B U : Nat} {J : β → World → Prop} (h : OwnC B U J) {s : β} {W : World} (hs : J s W) : J s W.drew :=
  h s W _ none hs ⟨rfl, rfl, rfl, Nat.le_refl _, fun _ _ _ => rfl⟩ (fun r e => by cases e)

set_option maxRecDepth 100000 in
set_option maxHeartbeats 4000000 in
theorem convSeq (xs : List Int) (hn : xs.length ≤ 1000000) (ad : Option Addr) (cap cb b off : Nat) (had : 0 < xs.length → ad = some ⟨b, off, none⟩) (Kb : Nat → Prop) (hk2 : Kb b) (w0 : World)
    (hB : Box w0 cb [.slice ad xs.length cap]) (hc : ∀ k, k < xs.length → b < w0.heap.size ∧ w0.cell? ⟨b, off + k, none⟩ = some (.int .i64 (xs.getD k 0))) :
    SeqC Tryd.prog 95 #[.pointer (some ⟨cb, 0, none⟩)] encF Kb (fun pre x => (pre ++ [x]) <+: cvs xs) (fun ys => ys = cvs xs) (fun pre => pre <+: cvs xs) w0 := by
  intro l J Jx W hW hJ hJx hY h0
  have hro : Fence.wide.round = none := rfl
  refine callsIn_of_wp Tryd.func95 rfl trivial ?_ hro
  simp only [Tryd.ntmps95, List.size_toArray, List.length_cons, List.length_nil, Nat.reduceAdd, Nat.reduceSub, Array.replicate_succ, Array.replicate_zero, List.push_toArray, List.append_toArray, List.nil_append, List.cons_append]
  have hBW := hB.below hW
  obtain ⟨_, hb1, hb2⟩ := hBW.one
  gi_wp2
  gi_loopw [11] (fun i wr => ∃ k : Nat, k ≤ xs.length ∧ i = (.int .i64 k) ∧ J (cvs (xs.take k)) wr ∧ W.heap.size + 2 ≤ wr.heap.size ∧ (0 < xs.length → wr.heap[b]? = W.heap[b]?) ∧
      Box wr W.heap.size [.int .i64 ((cst (xs.take k)).1.1), .int .i64 ((cst (xs.take k)).1.2)] ∧ Box wr (W.heap.size + 1) [.int .i64 ((cst (xs.take k)).2.1), .int .i64 ((cst (xs.take k)).2.2)]) (fun i _ => xs.length - (intOf i).toNat)
  case atStart =>
    refine ⟨0, Nat.zero_le _, rfl, hJ.alloc (hJ.alloc h0 _) _, by simp, fun h => ?_, Box.alloc (Box.new _ _ _) _, Box.newAt (by simp) _ _⟩
    have hlt := Nat.lt_of_lt_of_le (hc 0 h).1 hW.size
    exact (Below.heap_alloc _ _ _ (by simp; omega)).trans (Below.heap_alloc _ _ _ hlt)
  case round =>
    obtain ⟨k, hk, rfl, hJk, hz, hbk, B3, B4⟩ := hrel
    by_cases hlt : k < xs.length
    · obtain ⟨x, hx⟩ : ∃ x, xs.getD k 0 = x := ⟨_, rfl⟩
      obtain ⟨hcv, hcs⟩ := cvs_take xs k hlt x hx
      have hnx : (cvs (xs.take k) ++ [(cst (xs.take (k + 1))).2]) <+: cvs xs := hcv ▸ cvs_prefix xs (k + 1)
      obtain ⟨hb0, hc0⟩ := hc k hlt
      have c1 : wr.cell? ⟨b, off + k, none⟩ = some (.int .i64 x) := (World.cell?_of_block (a := ⟨b, off + k, none⟩) (hbk (by omega))).trans ((hW.cell (p := ⟨b, off + k, none⟩) hb0).trans (by rw [hc0, hx]))
      obtain rfl := had (by omega)
      generalize hs : cst (xs.take k) = st at *
      obtain ⟨⟨b0, b1⟩, ⟨f0, f1⟩⟩ := st
      obtain ⟨_, _, _, _, _⟩ := B3.two
      obtain ⟨_, _, _, _, _⟩ := B4.two
      simp only [stepC] at hcs
      obtain ⟨y0, hy0⟩ : ∃ y0, wrap64 (wrap64 (x * f0) + b0) = y0 := ⟨_, rfl⟩
      obtain ⟨y1, hy1⟩ : ∃ y1, wrap64 (wrap64 (x * f1) + b1) = y1 := ⟨_, rfl⟩
      rw [hy0, hy1] at hcs
      gi_upto_region 4 with fail
      refine wpIn_wide.2 ?_
      go_region
      rw [hy0, hy1]
      have hB3 : Box ((((wr.setCell ⟨W.heap.size, 0, none⟩ (.int .i64 f0)).setCell ⟨W.heap.size, 1, none⟩ (.int .i64 f1)).setCell ⟨W.heap.size + 1, 0, none⟩ (.int .i64 y0)).setCell ⟨W.heap.size + 1, 1, none⟩ (.int .i64 y1)).drew W.heap.size [.int .i64 f0, .int .i64 f1] := Box.drew (((B3.put2 (.int .i64 f0) (.int .i64 f1)).far (p := ⟨W.heap.size + 1, 0, none⟩) (by dsimp only; omega) (.int .i64 y0)).far (p := ⟨W.heap.size + 1, 1, none⟩) (by dsimp only; omega) (.int .i64 y1))
      have hB4 : Box ((((wr.setCell ⟨W.heap.size, 0, none⟩ (.int .i64 f0)).setCell ⟨W.heap.size, 1, none⟩ (.int .i64 f1)).setCell ⟨W.heap.size + 1, 0, none⟩ (.int .i64 y0)).setCell ⟨W.heap.size + 1, 1, none⟩ (.int .i64 y1)).drew (W.heap.size + 1) [.int .i64 y0, .int .i64 y1] := Box.drew (Box.put2 ((B4.far (p := ⟨W.heap.size, 0, none⟩) (by dsimp only; omega) (.int .i64 f0)).far (p := ⟨W.heap.size, 1, none⟩) (by dsimp only; omega) (.int .i64 f1)) (.int .i64 y0) (.int .i64 y1))
      have hJ1 : J (cvs (xs.take k)) ((((wr.setCell ⟨W.heap.size, 0, none⟩ (.int .i64 f0)).setCell ⟨W.heap.size, 1, none⟩ (.int .i64 f1)).setCell ⟨W.heap.size + 1, 0, none⟩ (.int .i64 y0)).setCell ⟨W.heap.size + 1, 1, none⟩ (.int .i64 y1)).drew := hJ.drew (hJ.set (hJ.set (hJ.set (hJ.set hJk (by dsimp only; omega) (by dsimp only; omega) _) (by dsimp only; omega) (by dsimp only; omega) _) (by dsimp only; omega) (by dsimp only; omega) _) (by dsimp only; omega) (by dsimp only; omega) _)
      have hz1 : W.heap.size + 2 ≤ (((((wr.setCell ⟨W.heap.size, 0, none⟩ (.int .i64 f0)).setCell ⟨W.heap.size, 1, none⟩ (.int .i64 f1)).setCell ⟨W.heap.size + 1, 0, none⟩ (.int .i64 y0)).setCell ⟨W.heap.size + 1, 1, none⟩ (.int .i64 y1)).drew).heap.size := by simpa using hz
      have hbE : b ≠ W.heap.size ∧ b ≠ W.heap.size + 1 := by have := hW.size; omega
      have hbk1 : (((((wr.setCell ⟨W.heap.size, 0, none⟩ (.int .i64 f0)).setCell ⟨W.heap.size, 1, none⟩ (.int .i64 f1)).setCell ⟨W.heap.size + 1, 0, none⟩ (.int .i64 y0)).setCell ⟨W.heap.size + 1, 1, none⟩ (.int .i64 y1)).drew).heap[b]? = W.heap[b]? := by
        refine Eq.trans ?_ (hbk (by omega))
        exact (Below.heap_setCell _ ⟨W.heap.size + 1, 1, none⟩ _ b hbE.2).trans ((Below.heap_setCell _ ⟨W.heap.size + 1, 0, none⟩ _ b hbE.2).trans ((Below.heap_setCell _ ⟨W.heap.size, 1, none⟩ _ b hbE.1).trans (Below.heap_setCell _ ⟨W.heap.size, 0, none⟩ _ b hbE.1)))
      generalize ((((wr.setCell ⟨W.heap.size, 0, none⟩ (.int .i64 f0)).setCell ⟨W.heap.size, 1, none⟩ (.int .i64 f1)).setCell ⟨W.heap.size + 1, 0, none⟩ (.int .i64 y0)).setCell ⟨W.heap.size + 1, 1, none⟩ (.int .i64 y1)).drew = wz at *
      obtain ⟨_, _, _, _, _⟩ := hB4.two
      have hcs2 : (cst (xs.take (k + 1))).2 = (y0, y1) := by rw [hcs]
      obtain ⟨fn, tmps, assign, body, hy, hR⟩ := hY _ _ _ hJ1 hz1 hnx
      rw [hcs2] at hy hR
      simp only [encF] at hy
      gi_wp2
      refine hR.mono ?_
      rintro e W3 (⟨rfl, hJ3, hz3, hk3⟩ | ⟨rfl, hJx3⟩)
      · gi_wp2
        go_roundw
        case rel =>
          refine ⟨k + 1, hlt, by go_num, ?_, by omega, fun h => ?_, ?_, ?_⟩
          · rw [hcv, hcs2]; exact hJ3
          · exact (hk3 b (.inl hk2) (by have := hW.size; omega)).trans hbk1
          · rw [hcs]; exact hB3.of_heap (hk3 _ (.inr (.inl rfl)) hB3.1) hz3
          · rw [hcs]; exact hB4.of_heap (hk3 _ (.inr (.inr rfl)) hB4.1) hz3
        case measure => simp [intOf]; omega
      · gi_wp2
        refine bodyPost_ret (results_none rfl _ _ _) rfl ?_
        exact ⟨⟨_, rfl⟩, .inr ⟨_, hcs2 ▸ hnx, hJx3⟩⟩
    · have hke : k = xs.length := by omega
      subst hke
      gi_wp2
      go_end0
      rw [List.take_length] at hJk
      exact ⟨⟨_, rfl⟩, .inl ⟨_, rfl, hJk⟩⟩
end Go.Proofs.YtdcomnnpnhinfaaDoor
/- What the row's list gives: the package's table 'identity' holds its four numbers. -/
namespace Go.Proofs.YtdcomnnpnhinfaaDoor
open Go.ChangeShapes Go.WideShapes Go.ChangeAt Go.RowKit

theorem gIdn : Tryd.prog.globalNamed "loop.example/g01380/impl.identity" = some 2 := by kernel_rfl
theorem gIdnType : (Tryd.prog.globals[2]?).map (·.type) = some 58 := by kernel_rfl
theorem cells_mat : Tryd.prog.cellsOf 58 = 4 := by kernel_rfl
theorem cells_int : Tryd.prog.cellsOf 2 = 1 := by kernel_rfl
theorem idn_of {W : World} (h : laidMetH Tryd.prog [("loop.example/g01380/impl.identity", Rows.laid_loop_example_g01380_impl_identity)] W) : Idn W := by
  have t : Lib.TabIs Tryd.prog W "loop.example/g01380/impl.identity" .i64 [1, 0, 0, 1] := Lib.tabIs_of_head (rest := []) gIdn gIdnType Tryd.underlying58 Tryd.underlying2 cells_int cells_mat h
  have c0 := t.cell gIdn 0 (by decide)
  refine ⟨World.block_lt_of_cell? W _ c0, fun i v hv => ?_⟩
  match i, hv with
  | 0, hv => injection hv with hv; subst hv; exact c0
  | 1, hv => injection hv with hv; subst hv; exact t.cell gIdn 1 (by decide)
  | 2, hv => injection hv with hv; subst hv; exact t.cell gIdn 2 (by decide)
  | 3, hv => injection hv with hv; subst hv; exact t.cell gIdn 3 (by decide)
end Go.Proofs.YtdcomnnpnhinfaaDoor
/- What is known of the package's error: an interface value with a pointer in it. -/
namespace Go.Proofs.YtdcomnnpnhinfaaDoor
open Go.ChangeShapes Go.WideShapes Go.ChangeAt Go.RowKit

end Go.Proofs.YtdcomnnpnhinfaaDoor
/- impl.mustBeFractions: contracts for one and for two fractions. -/
namespace Go.Proofs.YtdcomnnpnhinfaaDoor
open Go.ChangeShapes Go.WideShapes Go.ChangeAt Go.RowKit

theorem isF_is (r : Bool) (p q : Int) (h : isF p q = r) (w : World) : Calls Tryd.prog 40 #[(.agg #[.int .i64 p, .int .i64 q])] w fun e w' => e = .returned (.bool r) ∧ Below w.heap.size w w' := h ▸ implIsF_any p q w

end Go.Proofs.YtdcomnnpnhinfaaDoor
/- Contracts of determinants of two fractions. -/
namespace Go.Proofs.YtdcomnnpnhinfaaDoor
open Go.ChangeShapes Go.WideShapes Go.ChangeAt Go.RowKit

theorem Box.reads2 {w : World} {g : Nat} {x0 x1 : Value} (h : Box w g [x0, x1]) (y0 y1 : Value) :
    (w.setCell ⟨g, 0, none⟩ y0).cell? ⟨g, 0, none⟩ = some y0 ∧ ((w.setCell ⟨g, 0, none⟩ y0).setCell ⟨g, 1, none⟩ y1).cell? ⟨g, 0, none⟩ = some y0 ∧ ((w.setCell ⟨g, 0, none⟩ y0).setCell ⟨g, 1, none⟩ y1).cell? ⟨g, 1, none⟩ = some y1 :=
  ⟨((h.set 0 (by simp) y0).two).2.1, (h.put2 y0 y1).two.2.1, (h.put2 y0 y1).two.2.2.1⟩
theorem Box.reads4 {w : World} {g : Nat} {x0 x1 x2 x3 : Value} (h : Box w g [x0, x1, x2, x3]) (y0 y1 y2 y3 : Value) :
    (w.setCell ⟨g, 0, none⟩ y0).cell? ⟨g, 0, none⟩ = some y0 ∧ ((w.setCell ⟨g, 0, none⟩ y0).setCell ⟨g, 1, none⟩ y1).cell? ⟨g, 1, none⟩ = some y1 ∧
      (((w.setCell ⟨g, 0, none⟩ y0).setCell ⟨g, 1, none⟩ y1).setCell ⟨g, 2, none⟩ y2).cell? ⟨g, 2, none⟩ = some y2 ∧ ((((w.setCell ⟨g, 0, none⟩ y0).setCell ⟨g, 1, none⟩ y1).setCell ⟨g, 2, none⟩ y2).setCell ⟨g, 3, none⟩ y3).cell? ⟨g, 3, none⟩ = some y3 :=
  ⟨((h.set 0 (by simp) y0).four).2.1, (((h.set 0 (by simp) y0).set 1 (by simp) y1).four).2.2.1, ((((h.set 0 (by simp) y0).set 1 (by simp) y1).set 2 (by simp) y2).four).2.2.2.1, (h.put4 y0 y1 y2 y3).four.2.2.2.2.1⟩
theorem isF_ent {p q : Int} (h : isF p q = true) : Ent p ∧ Ent q ∧ 0 ≤ q ∧ Int.gcd p q = 1 ∧ (0 < q ∨ p = 1) := by
  obtain ⟨h1, h2, h3, h4, h5⟩ := of_decide_eq_true h
  exact ⟨h1, by unfold Ent; omega, h2, h4, h5⟩
/-- The determinant of two fractions. -/
def detF (p q s t : Int) : Int := p * t - q * s
theorem detF_bd {p q s t : Int} (hp : Ent p) (hq : Ent q) (hs : Ent s) (ht : Ent t) : -2000000000000000000 ≤ detF p q s t ∧ detF p q s t ≤ 2000000000000000000 := by
  have h1 := ent_mul hp ht
  have h2 := ent_mul hq hs
  unfold detF
  omega
set_option maxHeartbeats 1000000 in
theorem det_is (p q s t D : Int) (hD : detF p q s t = D) (hp : Ent p) (hq : Ent q) (hs : Ent s) (ht : Ent t) (w : World) :
    Calls Tryd.prog 97 #[(.agg #[.int .i64 p, .int .i64 q]), (.agg #[.int .i64 s, .int .i64 t])] w fun e w' => e = .returned (.int .i64 D) ∧ Below w.heap.size w w' := by
  have h1 := ent_mul hp ht
  have h2 := ent_mul hq hs
  have HD : Hid (p * t - q * s = D) := Lib.hid hD
  clear hp hq hs ht hD
  obtain ⟨_, _⟩ := h1
  obtain ⟨_, _⟩ := h2
  go_enter Tryd.func97, Tryd.ntmps97
  go_wp2
  go_ret
  exact ⟨ret_int HD.out, by repeat (first | with_reducible exact own_refl _ | with_reducible assumption | with_reducible apply own_alloc | with_reducible apply own_drewN | with_reducible apply own_drew | ((with_reducible refine own_setCell ?_ ?_ _); rotate_left; focus (first | (simp; done) | (simp; omega))) | (with_reducible (refine own_trans ?_ (by assumption))))⟩
theorem l03F_is (r : Bool) (p q : Int) (h : isF p q = r) (w : World) : Calls Tryd.prog 37 #[(.agg #[.int .i64 p, .int .i64 q])] w fun e w' => e = .returned (.bool r) ∧ Below w.heap.size w w' := h ▸ l01Fraction_any p q w
end Go.Proofs.YtdcomnnpnhinfaaDoor
/- Continued fractions are short: mathematics. -/
namespace Go.Proofs.YtdcomnnpnhinfaaDoor
open Go.ChangeShapes Go.WideShapes Go.ChangeAt Go.RowKit

theorem cf_short : ∀ (k f : Nat) (p q : Int), 0 ≤ q → q < 2 ^ k → (cfL f p q).length ≤ 2 * k := by
  intro k
  induction k with
  | zero => intro f p q h0 h; have : q = 0 := by simp at h; omega
            rw [this, cf_zero]; simp
  | succ k ih =>
    intro f p q h0 h
    rcases (show q = 0 ∨ 0 < q by omega) with h1 | h1
    · rw [h1, cf_zero]; simp
    cases f with
    | zero => simp [cfL]
    | succ f =>
      rw [cfL, if_neg (by omega), fl_pos h1]
      have em := Int.mul_ediv_add_emod p q
      rw [Int.mul_comm] at em
      have r1 := Int.emod_nonneg p (show q ≠ 0 by omega)
      have r2 := Int.emod_lt_of_pos p h1
      rw [show p - p / q * q = p % q by omega]
      generalize p % q = r at *
      rcases (show r = 0 ∨ 0 < r by omega) with h2 | h2
      · rw [h2, cf_zero]; simp; omega
      cases f with
      | zero => simp [cfL]; omega
      | succ f =>
        rw [cfL, if_neg (by omega), fl_pos h2]
        have em' := Int.mul_ediv_add_emod q r
        rw [Int.mul_comm] at em'
        have s1 := Int.emod_nonneg q (show r ≠ 0 by omega)
        have s2 := Int.emod_lt_of_pos q h2
        rw [show q - q / r * r = q % r by omega]
        have hq1 : 1 ≤ q / r := by rw [Int.le_ediv_iff_mul_le h2]; omega
        have hm : r ≤ q / r * r := by have := Int.mul_le_mul_of_nonneg_right hq1 (show 0 ≤ r by omega); omega
        have hb : q % r < 2 ^ k := by rw [Int.pow_succ] at h; omega
        have := ih f r (q % r) s1 hb
        simp only [List.length_cons]
        omega
end Go.Proofs.YtdcomnnpnhinfaaDoor
/- What stays where a loop's books and an iterator's boxes turn. -/
namespace Go.Proofs.YtdcomnnpnhinfaaDoor
open Go.ChangeShapes Go.WideShapes Go.ChangeAt Go.RowKit

theorem Box.ownC {W W' : World} {g B U : Nat} {xs : List Value} {row : Option Nat} (h : Box W g xs) (hg : W.grownBy W' row) (hr : ∀ r, row = some r → B ≤ r ∧ r < U) (hn : g < B ∨ U ≤ g) : Box W' g xs :=
  h.of_heap (hg.block g h.1 (fun e => by have := hr g e.symm; omega)) hg.size
theorem grownBy_set (W : World) (p : Addr) (v : Value) : W.grownBy (W.setCell p v) (some p.block) :=
  ⟨rfl, rfl, rfl, by simp [World.setCell], fun k _ hk => Below.heap_setCell W p v k (fun e => hk (by rw [e]))⟩
theorem Box.far2' {w : World} {g b : Nat} {xs : List Value} (h : Box w g xs) (hne : g ≠ b) (u v : Value) : Box ((w.setCell ⟨b, 0, none⟩ u).setCell ⟨b, 1, none⟩ v) g xs := (h.far hne u).far hne v
theorem below_ownC {w W W' : World} {n B U : Nat} {row : Option Nat} (h : Below n w W) (hg : W.grownBy W' row) (hr : ∀ r, row = some r → B ≤ r ∧ r < U) (hn : n ≤ B) (hz : n ≤ W.heap.size) : Below n w W' :=
  h.grown hg hz (fun k e => by have := hr k e; omega)
end Go.Proofs.YtdcomnnpnhinfaaDoor
/- slices.Collect over an iterator with two boxes of its own. -/
namespace Go.Proofs.YtdcomnnpnhinfaaDoor
open Go.ChangeShapes Go.WideShapes Go.ChangeAt Go.RowKit Go.Shelf
attribute [local go_sem] Oper.semAt_some

theorem GrF.own_ge {w : World} {L n g : Nat} {v : Value} {xs : List Int} (h : GrF w L v n xs) (hg : v.ownBlock = some g) : L ≤ g := (h.lt g hg).1
theorem GrF.ownC {W W' : World} {L n B U : Nat} {v : Value} {xs : List Int} {row : Option Nat} (h : GrF W L v n xs) (hg : W.grownBy W' row) (hr : ∀ r, row = some r → B ≤ r ∧ r < U) (hn : U ≤ L) : GrF W' L v n xs := by
  refine World.ownsRow.kept h hg ?_
  rcases e : v.ownBlock with _ | k
  · exact .inl rfl
  · exact .inr fun he => by have := hr k he.symm; have := h.own_ge e; omega
theorem GrF.weakC {w : World} {L L' n : Nat} {v : Value} {xs : List Int} (h : GrF w L v n xs) (hL : L' ≤ L) : GrF w L' v n xs := by
  obtain ⟨hl, hc⟩ := h
  refine ⟨hl, ?_⟩
  obtain hc | ⟨g, cap, cur, h1, h2, h3⟩ := hc
  · exact .inl hc
  · exact .inr ⟨g, cap, cur, h1, Nat.le_trans hL h2, h3⟩

/-- What AppendSeq keeps between two rounds. -/
def AI (w : World) (pre : List (Int × Int)) (W : World) : Prop :=
  Below w.heap.size w W ∧ w.heap.size + 1 ≤ W.heap.size ∧ ∃ v, Box W w.heap.size [v] ∧ GrF W (w.heap.size + 5) v pre.length (flatQ pre)
end Go.Proofs.YtdcomnnpnhinfaaDoor
/- impl.matrixTo: contract. -/
namespace Go.Proofs.YtdcomnnpnhinfaaDoor
open Go.ChangeShapes Go.WideShapes Go.ChangeAt Go.RowKit Go.Shelf
attribute [local go_sem] Oper.semAt_some

/-- the convergent ahead -/
def prvQ (ps : List (Int × Int)) : Int × Int := ps.getLast?.getD (1, 0)
theorem prvQ_snoc (ps : List (Int × Int)) (p : Int × Int) : prvQ (ps ++ [p]) = p := by simp [prvQ]
set_option maxHeartbeats 1000000 in
theorem columnsM_is (p q s t D x y : Int) (hD : detF p q s t = D) (hd : D = 1 ∨ D = -1) (hx : D * s = x) (hy : D * t = y) (hp : Ent p) (hq : Ent q) (hs : Ent s) (ht : Ent t) (w : World) :
    Calls Tryd.prog 75 #[(.agg #[.int .i64 p, .int .i64 q]), (.agg #[.int .i64 s, .int .i64 t])] w fun e w' => e = .returned (.agg #[.int .i64 p, .int .i64 x, .int .i64 q, .int .i64 y]) ∧ Below w.heap.size w w' := by
  have HD := Lib.hid hD
  have HE := Lib.hid (show Ent p ∧ Ent q ∧ Ent s ∧ Ent t from ⟨hp, hq, hs, ht⟩)
  have bx : Ent x := by rcases hd with rfl | rfl <;> (unfold Ent at *; omega)
  have by' : Ent y := by rcases hd with rfl | rfl <;> (unfold Ent at *; omega)
  have b1 : -1000000000 ≤ D * s ∧ D * s ≤ 1000000000 := by rw [hx]; exact bx
  have b2 : -1000000000 ≤ D * t ∧ D * t ≤ 1000000000 := by rw [hy]; exact by'
  have HX := Lib.hid hx
  have HY := Lib.hid hy
  clear hD hx hy hp hq hs ht bx by' hd
  obtain ⟨_, _⟩ := b1
  obtain ⟨_, _⟩ := b2
  go_enter Tryd.func75, Tryd.ntmps75
  go_wp2_with fail
  refine (det_is p q s t D HD.out HE.out.1 HE.out.2.1 HE.out.2.2.1 HE.out.2.2.2 _).mono ?_
  rintro e w1 ⟨rfl, hb1⟩
  have A1 : Box w1 w.heap.size [.int .i64 p, .int .i64 q] := Box.below (Box.alloc (Box.alloc (Box.new _ _ _) _) _) hb1
  have B1 : Box w1 (w.heap.size + 1) [.int .i64 s, .int .i64 t] := Box.below (Box.alloc (Box.newAt (by simp) _ _) _) hb1
  have Z1 : Box w1 (w.heap.size + 1 + 1) [.int .i64 0, .int .i64 0, .int .i64 0, .int .i64 0] := Box.below (Box.newAt (by simp) _ _) hb1
  obtain ⟨_, _, _, _, _⟩ := A1.two
  obtain ⟨_, _, _, _, _⟩ := B1.two
  obtain ⟨_, _, _, _, _, _, _, _, _⟩ := Z1.four
  go_wp2
  obtain ⟨d0, d1, d2, d3⟩ := Z1.reads4 (.int .i64 p) (.int .i64 x) (.int .i64 q) (.int .i64 y)
  exact bodyPost_ret (v := (.agg #[.int .i64 p, .int .i64 x, .int .i64 q, .int .i64 y])) (by simp [results, Tryd.results75, go_sem, d0, d1, d2, d3, HX.out, HY.out]) rfl ⟨rfl, by repeat (first | with_reducible exact own_refl _ | with_reducible assumption | with_reducible apply own_alloc | with_reducible apply own_drewN | with_reducible apply own_drew | ((with_reducible refine own_setCell ?_ ?_ _); rotate_left; focus (first | (simp; done) | (simp; omega))) | (with_reducible (refine own_trans ?_ (by assumption))))⟩
theorem ent_sgM {x : Int} (h : Ent x) (k : Nat) : Ent (sg k * x) := by
  rcases sg_or k with e | e <;> (rw [e]; unfold Ent at *; omega)
theorem cvs_get {xs : List Int} {i : Nat} (h : i < xs.length) : (cvs xs)[i]? = some (pd xs (i + 1), qd xs (i + 1)) := by
  simp [cvs, h, pd, qd]
theorem cvs_at {xs : List Int} {done : List (Int × Int)} {x : Int × Int} (h : done ++ [x] <+: cvs xs) : done.length < xs.length ∧ x = (pd xs (done.length + 1), qd xs (done.length + 1)) ∧ prvQ done = (pd xs done.length, qd xs done.length) := by
  obtain ⟨t, ht⟩ := h
  have hl := cvs_len xs
  rw [← ht] at hl
  simp at hl
  refine ⟨by omega, ?_, ?_⟩
  · have e := cvs_get (xs := xs) (i := done.length) (by omega)
    rw [← ht] at e
    simpa using e
  · rcases List.eq_nil_or_concat done with rfl | ⟨d, y, rfl⟩
    · simp [prvQ, pd, qd, cst]
    · have e := cvs_get (xs := xs) (i := d.length) (by simp at hl; omega)
      rw [← ht] at e
      simp at e
      rw [List.concat_eq_append, prvQ_snoc, e]
      simp
/-- What matrixTo keeps between two rounds. -/
def TI (p q : Int) (w : World) (pre : List (Int × Int)) (W : World) : Prop :=
  Below w.heap.size w W ∧ w.heap.size + 3 ≤ W.heap.size ∧ Box W w.heap.size [.int .i64 p, .int .i64 q] ∧ Box W (w.heap.size + 1) [.int .i64 0, .int .i64 0, .int .i64 0, .int .i64 0] ∧ Box W (w.heap.size + 1 + 1) [.int .i64 ((prvQ pre).1), .int .i64 ((prvQ pre).2)] ∧ (p, q) ∉ pre
/-- What it keeps where a round has left it. -/
def TIx (p q : Int) (w : World) (c : Code) (pre : List (Int × Int)) (W : World) : Prop :=
  c = .exit 0 ∧ Below w.heap.size w W ∧ w.heap.size + 3 ≤ W.heap.size ∧ Box W w.heap.size [.int .i64 p, .int .i64 q] ∧ Box W (w.heap.size + 1) [.int .i64 0, .int .i64 0, .int .i64 0, .int .i64 0] ∧ ∃ done, pre = done ++ [(p, q)] ∧ Box W (w.heap.size + 1 + 1) [.int .i64 ((prvQ done).1), .int .i64 ((prvQ done).2)]
theorem convFunM (ad : Option Addr) (m cap : Nat) (w : World) :
    Calls Tryd.prog 73 #[.slice ad m cap] w fun e w' => e = .returned (.func (.func 95) #[] #[.pointer (some ⟨w.heap.size, 0, none⟩)]) ∧ w' = w.alloc (.cells #[.slice ad m cap] 22) := by
  go_enter Tryd.func73, Tryd.ntmps73
  go_wp2
  go_ret
  exact ⟨rfl, rfl⟩
set_option maxRecDepth 100000 in
set_option maxHeartbeats 4000000 in
theorem matrixTo_yes (p q : Int) (h : isF p q = true) (hq : 0 < q) (w : World) :
    Calls Tryd.prog 43 #[(.agg #[.int .i64 p, .int .i64 q])] w fun e w' => ∃ r s : Int, e = .returned (.agg #[.int .i64 p, .int .i64 r, .int .i64 q, .int .i64 s]) ∧ Hid (p * s - q * r = 1 ∧ Ent r ∧ Ent s) ∧ Below w.heap.size w w' := by
  obtain ⟨hp, hq0, hq1, hg, -⟩ := of_decide_eq_true h
  have hqe : Ent q := by unfold Ent; omega
  have HQ := Lib.hid (fun w => implCf_any q.natAbs p q hp hqe hq (Nat.le_refl _) (by omega) w)
  have hall := cv_fine q.natAbs p q hp hqe (by omega)
  have hlast := cst_last hp hqe hq hg
  have hlen := cf_short 30 q.natAbs p q (by omega) (by omega)
  have hne : 0 < (cfL q.natAbs p q).length := by
    obtain ⟨n, hn⟩ : ∃ n, q.natAbs = n + 1 := ⟨q.natAbs - 1, by omega⟩
    rw [hn, cfL, if_neg (by omega)]
    simp
  generalize cfL q.natAbs p q = xs at *
  have HA := Lib.hid (And.intro hall hlast)
  have HE := Lib.hid (And.intro hp (And.intro hqe hne))
  have hq' : (q == 0) = false := by simpa using (show q ≠ 0 by omega)
  have hxl : xs.length ≤ 1000000 := by omega
  have eqf := fun (a b : Int) (w : World) => eq_fr a b p q w
  clear hp hq0 hq1 hg hqe hall hlast hlen hne h
  refine (callsIn_wide (n := 3)).1 ?_
  have hro : Fence.wide.round = none := rfl
  refine callsIn_of_wp_marks Tryd.func43 rfl trivial ?_ hro
  simp only [Tryd.ntmps43, List.size_toArray, List.length_cons, List.length_nil, Nat.reduceAdd, Nat.reduceSub, Array.replicate_succ, Array.replicate_zero, List.push_toArray, List.append_toArray, List.nil_append, List.cons_append]
  gi_wp2_with fail
  refine ⟨trivial, (callsIn_wide.2 (HQ.out _)).mono ?_⟩
  rintro e w2 ⟨v, rfl, G2, hb2⟩
  have F2' : Box w2 w.heap.size [.int .i64 p, .int .i64 q] := Box.below (((Box.new _ _ _).alloc _).alloc _) hb2
  have R2 : Box w2 (w.heap.size + 1) [.int .i64 0, .int .i64 0, .int .i64 0, .int .i64 0] := Box.below ((Box.newAt (by simp) _ _).alloc _) hb2
  have A2 : Box w2 (w.heap.size + 1 + 1) [.int .i64 1, .int .i64 0] := Box.below (Box.newAt (by simp) _ _) hb2
  have T2 : Below w.heap.size w w2 := by repeat (first | with_reducible exact own_refl _ | with_reducible assumption | with_reducible apply own_alloc | with_reducible apply own_drewN | with_reducible apply own_drew | ((with_reducible refine own_setCell ?_ ?_ _); rotate_left; focus (first | (simp; done) | (simp; omega))) | (with_reducible (refine own_trans ?_ (by assumption))))
  obtain ⟨ad, cap, e⟩ := G2.shape
  subst e
  obtain ⟨b, e, lb, ub, hcb⟩ := G2.cellsZ HE.out.2.2
  subst e
  simp only [World.size_alloc] at lb
  have HC := Lib.hid (fun k hk => (hcb k hk).1)
  clear hcb G2 hb2
  gi_wp2_with fail
  refine ⟨trivial, (callsIn_wide.2 (convFunM _ _ _ _)).mono ?_⟩
  rintro e w3 ⟨rfl, rfl⟩
  gi_wp2_with fail
  have F3 := F2'.alloc (.cells #[.slice (some ⟨b, 0, none⟩) xs.length cap] 22)
  have R3 := R2.alloc (.cells #[.slice (some ⟨b, 0, none⟩) xs.length cap] 22)
  have A3 := A2.alloc (.cells #[.slice (some ⟨b, 0, none⟩) xs.length cap] 22)
  have T3 := own_alloc T2 (.cells #[.slice (some ⟨b, 0, none⟩) xs.length cap] 22)
  have C3 : Box (w2.alloc (.cells #[.slice (some ⟨b, 0, none⟩) xs.length cap] 22)) w2.heap.size [.slice (some ⟨b, 0, none⟩) xs.length cap] := Box.new _ _ _
  have hc3 : ∀ k, k < xs.length → b < (w2.alloc (.cells #[.slice (some ⟨b, 0, none⟩) xs.length cap] 22)).heap.size ∧ (w2.alloc (.cells #[.slice (some ⟨b, 0, none⟩) xs.length cap] 22)).cell? ⟨b, 0 + k, none⟩ = some (.int .i64 (xs.getD k 0)) := fun k hk =>
    ⟨by simp; omega, by rw [Nat.zero_add]; exact ((own_alloc (own_refl w2) _).cell (p := ⟨b, k, none⟩) ub).trans (HC.out k hk)⟩
  have hub : b < (w2.alloc (.cells #[.slice (some ⟨b, 0, none⟩) xs.length cap] 22)).heap.size := by simp; omega
  have hcg : w2.heap.size < (w2.alloc (.cells #[.slice (some ⟨b, 0, none⟩) xs.length cap] 22)).heap.size := by simp
  have hg2 : w.heap.size + 1 + 1 < w2.heap.size := A2.1
  generalize w2.alloc (.cells #[.slice (some ⟨b, 0, none⟩) xs.length cap] 22) = W3 at *
  clear F2' R2 A2 T2 HC ub
  generalize w2.heap.size = cb at *
  clear w2
  have I3 : TI p q w [] W3 := ⟨T3, by omega, F3, R3, A3, by simp⟩
  have OI : OwnC W3.heap.size (W3.heap.size + 4) (TI p q w) := by
    rintro s X Y row ⟨h1, h2, h3, h4, h5, h6⟩ hg hr
    exact ⟨below_ownC h1 hg hr (by omega) (by omega), Nat.le_trans h2 hg.size, h3.ownC hg hr (by omega), h4.ownC hg hr (by omega), h5.ownC hg hr (by omega), h6⟩
  refine rangeC (gf := 95) (lb := #[.pointer (some ⟨cb, 0, none⟩)]) rfl (fun _ _ => by kernel_rfl)
    (convSeq xs hxl (some ⟨b, 0, none⟩) cap cb b 0 (fun _ => rfl) (fun k => k = b) rfl W3 C3 hc3) (Below.refl _ _) (fun k hk => by omega) (fun _ => rfl)
    (TI p q w) (TIx p q w) ?hI ?hIx I3 (fun x a' W => ∃ g, W3.heap.size + 4 ≤ g ∧ Box W g [.int .i64 x.1, .int .i64 x.2] ∧ a' = { tmps := #[(.agg #[.int .i64 p, .int .i64 q]), .pointer (some ⟨w.heap.size, 0, none⟩), .pointer (some ⟨w.heap.size + 1, 0, none⟩), .pointer (some ⟨w.heap.size + 1 + 1, 0, none⟩), .pointer (some ⟨g, 0, none⟩), .pointer (some ⟨w.heap.size, 1, none⟩), (.int .i64 q), .bool false, undef, (.agg #[.int .i64 1, .int .i64 0]), (.agg #[.int .i64 p, .int .i64 q]), .slice (some ⟨b, 0, none⟩) xs.length cap, .func (.func 95) #[] #[.pointer (some ⟨cb, 0, none⟩)], (.agg #[.int .i64 x.1, .int .i64 x.2]), undef, undef, undef, undef, undef, undef, undef], defers := [] }) ?hAx ?assign ?body ?done ?stop
  case hI => exact OI
  case hIx =>
    rintro c s X Y row ⟨h0, h1, h2, h3, h4, done, h5, h6⟩ hg hr
    exact ⟨h0, below_ownC h1 hg hr (by omega) (by omega), Nat.le_trans h2 hg.size, h3.ownC hg hr (by omega), h4.ownC hg hr (by omega), done, h5, h6.ownC hg hr (by omega)⟩
  case hAx =>
    rintro x s X Y row ⟨g, h1, h2, h3⟩ hg hr
    exact ⟨g, h1, h2.ownC hg hr (by omega), h3⟩
  case assign =>
    rintro l pre x W K hI hz hK
    simp only [encF]
    gi_wp2
    exact hK _ _ (KeepC.grown (World.grownBy_alloc _ _ none) (fun r e => by cases e)) (OI.alloc hI _) ⟨W.heap.size, hz, Box.new _ _ _, rfl⟩
  case body =>
    rintro l pre x a' W hI ⟨g, hg, hB, rfl⟩ hz hnx
    obtain ⟨T, hsz, B0, B1, B2, hno⟩ := hI
    obtain ⟨_, g0, g1, _, _⟩ := hB.two
    obtain ⟨_, _, _, _, _⟩ := B0.two
    obtain ⟨_, _, _, _, _⟩ := B2.two
    obtain ⟨x0, x1⟩ := x
    simp only at g0 g1
    by_cases hx : x0 = p ∧ x1 = q
    · obtain ⟨rfl, rfl⟩ := hx
      have heq := fun w => eq_fr_is true x0 x1 x0 x1 (by simp) w
      gi_wp2
      exact ⟨KeepC.refl _, rfl, T, hsz, B0, B1, pre, rfl, B2⟩
    · have heq := fun w => eq_fr_is false x0 x1 p q (decide_eq_false hx) w
      gi_wp2
      have hne : ∀ r, some r = some (w.heap.size + 1 + 1) → ¬ (r = b ∨ (W3.heap.size ≤ r ∧ r < W3.heap.size + 4)) := fun r hr => by simp at hr; omega
      refine ⟨(KeepC.grown (grownBy_set _ _ _) fun r e => hne r e.symm).trans (KeepC.grown (grownBy_set _ _ _) fun r e => hne r e.symm), by repeat (first | with_reducible exact own_refl _ | with_reducible assumption | with_reducible apply own_alloc | with_reducible apply own_drewN | with_reducible apply own_drew | ((with_reducible refine own_setCell ?_ ?_ _); rotate_left; focus (first | (simp; done) | (simp; omega))) | (with_reducible (refine own_trans ?_ (by assumption)))), by simpa using hsz, (B0.far (by dsimp only; omega) _).far (by dsimp only; omega) _, (B1.far (by dsimp only; omega) _).far (by dsimp only; omega) _, ?_, ?_⟩
      · rw [prvQ_snoc]; exact Box.put2 B2 (.int .i64 x0) (.int .i64 x1)
      · intro hm
        rcases List.mem_append.1 hm with h | h
        · exact hno h
        · simp only [List.mem_singleton, Prod.mk.injEq] at h
          exact hx ⟨h.1.symm, h.2.symm⟩
  case done =>
    rintro ys W rfl hI hD
    exfalso
    apply hI.2.2.2.2.2
    rw [← HA.out.2]
    have hm : cvs xs ≠ [] := by
      intro e
      have h1 := cvs_len xs
      have h2 := HE.out.2.2
      rw [e, List.length_nil] at h1
      omega
    have e : (cst xs).2 = (cst (xs.take (xs.length - 1 + 1))).2 := by
      rw [show xs.length - 1 + 1 = xs.length by have := HE.out.2.2; omega, List.take_length]
    rw [e]
    unfold cvs
    exact List.mem_map.2 ⟨xs.length - 1, List.mem_range.2 (by have := HE.out.2.2; omega), rfl⟩
  case stop =>
    rintro c pre W hpre ⟨rfl, T, hsz, B0, B1, done, rfl, B2⟩ hD
    obtain ⟨hk, e1, e2⟩ := cvs_at hpre
    have hdet := pq_det HA.out.1 hk
    have eE := pq_ent HA.out.1 (k := done.length) (by omega)
    have hsg := sg_or (done.length + 1)
    have hsq := sg_sq (done.length + 1)
    rw [e2] at B2
    simp only [Prod.mk.injEq] at e1
    rw [← e1.1, ← e1.2] at hdet
    simp only at B2
    have eS := ent_sgM eE.1 (done.length + 1)
    have eT := ent_sgM eE.2 (done.length + 1)
    generalize pd xs done.length = r at *
    generalize qd xs done.length = t at *
    generalize sg (done.length + 1) = D at *
    have HM := Lib.hid (fun w => columnsM_is p q r t D _ _ hdet hsg rfl rfl HE.out.1 HE.out.2.1 eE.1 eE.2 w)
    have HR : Hid (p * (D * t) - q * (D * r) = 1 ∧ Ent (D * r) ∧ Ent (D * t)) := Lib.hid ⟨by rw [← hsq, ← hdet]; grind, eS, eT⟩
    generalize D * r = x at *
    generalize D * t = y at *
    clear hdet eE hsg hsq eS eT e1 e2 hk hpre
    obtain ⟨_, c0, c1, _, _⟩ := B0.two
    obtain ⟨_, d0, d1, _, _⟩ := B2.two
    gi_wp2_with fail
    refine ⟨trivial, (callsIn_wide.2 (HM.out _)).mono ?_⟩
    rintro e w5 ⟨rfl, hb5⟩
    have hdl : W3.heap.size < W.heap.size := (Array.getElem?_eq_some_iff.1 hD).1
    have hD5 : w5.heap[W3.heap.size]? = some (.deferred (some [])) := ((grow_below hb5).block _ hdl (by simp)).trans hD
    have R5 := B1.below hb5
    have T5 := own_trans T hb5
    have hs5 := hb5.size
    obtain ⟨-, k0, k1, k2, k3, l0, l1, l2, l3⟩ := R5.four
    have R6 := R5.put4 (.int .i64 p) (.int .i64 x) (.int .i64 q) (.int .i64 y)
    have T6 := own_setCell (own_setCell (own_setCell (own_setCell T5 (p := ⟨w.heap.size + 1, 0, none⟩) (by simp) (.int .i64 p)) (p := ⟨w.heap.size + 1, 1, none⟩) (by simp) (.int .i64 x)) (p := ⟨w.heap.size + 1, 2, none⟩) (by simp) (.int .i64 q)) (p := ⟨w.heap.size + 1, 3, none⟩) (by simp) (.int .i64 y)
    have hD6 : ((((w5.setCell ⟨w.heap.size + 1, 0, none⟩ (.int .i64 p)).setCell ⟨w.heap.size + 1, 1, none⟩ (.int .i64 x)).setCell ⟨w.heap.size + 1, 2, none⟩ (.int .i64 q)).setCell ⟨w.heap.size + 1, 3, none⟩ (.int .i64 y)).heap[W3.heap.size]? = some (.deferred (some [])) := by
      refine Eq.trans ?_ hD5
      exact (Below.heap_setCell _ ⟨w.heap.size + 1, 3, none⟩ _ _ (by dsimp only; omega)).trans ((Below.heap_setCell _ ⟨w.heap.size + 1, 2, none⟩ _ _ (by dsimp only; omega)).trans ((Below.heap_setCell _ ⟨w.heap.size + 1, 1, none⟩ _ _ (by dsimp only; omega)).trans (Below.heap_setCell _ ⟨w.heap.size + 1, 0, none⟩ _ _ (by dsimp only; omega))))
    gi_wp2
    generalize (((w5.setCell ⟨w.heap.size + 1, 0, none⟩ (.int .i64 p)).setCell ⟨w.heap.size + 1, 1, none⟩ (.int .i64 x)).setCell ⟨w.heap.size + 1, 2, none⟩ (.int .i64 q)).setCell ⟨w.heap.size + 1, 3, none⟩ (.int .i64 y) = w6 at *
    refine ⟨by simp, .inl ⟨_, _, rfl, run_takeDeferred hD6, ?_⟩⟩
    obtain ⟨_, z0, z1, z2, z3, _⟩ := (R6.of_heap (w' := w6.putObj W3.heap.size (.deferred none)) (World.putObj_heap_other (by omega)) (by simp)).four
    exact ⟨_, by simp [results, Tryd.results43, go_sem, z0, z1, z2, z3], x, y, rfl, HR, T6.grown (grownBy_putObj' _ _ _) T6.size (fun k e => by cases e; omega)⟩
set_option maxHeartbeats 2000000 in
theorem matrixTo_inf (p : Int) (w : World) (hid : Idn w) : Calls Tryd.prog 43 #[(.agg #[.int .i64 p, .int .i64 0])] w fun e w' => e = .returned (.agg #[.int .i64 1, .int .i64 0, .int .i64 0, .int .i64 1]) ∧ Below w.heap.size w w' := by
  have F0 : Box ((w.alloc (.cells #[(.int .i64 p), (.int .i64 0)] 33)).alloc (.cells #[(.int .i64 0), (.int .i64 0), (.int .i64 0), (.int .i64 0)] 58)) w.heap.size [.int .i64 p, .int .i64 0] := (Box.new _ _ _).alloc _
  have R0 : Box ((w.alloc (.cells #[(.int .i64 p), (.int .i64 0)] 33)).alloc (.cells #[(.int .i64 0), (.int .i64 0), (.int .i64 0), (.int .i64 0)] 58)) (w.heap.size + 1) [.int .i64 0, .int .i64 0, .int .i64 0, .int .i64 0] := Box.newAt (by simp) _ _
  have T0 := own_alloc (own_alloc (own_refl w) (.cells #[(.int .i64 p), (.int .i64 0)] 33)) (.cells #[(.int .i64 0), (.int .i64 0), (.int .i64 0), (.int .i64 0)] 58)
  have M0 : Idn _ := Rd.below hid T0
  go_enter Tryd.func43, Tryd.ntmps43
  go_upto_region 1 with fail
  generalize (w.alloc (.cells #[(.int .i64 p), (.int .i64 0)] 33)).alloc (.cells #[(.int .i64 0), (.int .i64 0), (.int .i64 0), (.int .i64 0)] 58) = w0 at *
  obtain ⟨-, c0, c1, -, -⟩ := F0.two
  obtain ⟨-, k0, k1, k2, k3, l0, l1, l2, l3⟩ := R0.four
  obtain ⟨-, m0, m1, m2, m3⟩ := M0.four
  have R6 := R0.put4 (.int .i64 1) (.int .i64 0) (.int .i64 0) (.int .i64 1)
  have T6 := own_setCell (own_setCell (own_setCell (own_setCell T0 (p := ⟨w.heap.size + 1, 0, none⟩) (by simp) (.int .i64 1)) (p := ⟨w.heap.size + 1, 1, none⟩) (by simp) (.int .i64 0)) (p := ⟨w.heap.size + 1, 2, none⟩) (by simp) (.int .i64 0)) (p := ⟨w.heap.size + 1, 3, none⟩) (by simp) (.int .i64 1)
  obtain ⟨-, z0, z1, z2, z3, -⟩ := R6.four
  go_wp2
  exact bodyPost_ret (v := (.agg #[.int .i64 1, .int .i64 0, .int .i64 0, .int .i64 1])) (by simp [results, Tryd.results43, go_sem, z0, z1, z2, z3]) rfl ⟨rfl, T6⟩
end Go.Proofs.YtdcomnnpnhinfaaDoor
