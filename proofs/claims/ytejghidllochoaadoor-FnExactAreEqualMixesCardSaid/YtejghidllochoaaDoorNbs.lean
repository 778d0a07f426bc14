/- The numbers of a line: the program's map. -/
import Derived.Test.YtejghidllochoaaDoorLnO
import Derived.Test.YtejghidllochoaaDoorLnX
import Derived.Test.YtejghidllochoaaDoorPK
namespace Go.Proofs.YtejghidllochoaaDoor
open Go.ChangeShapes Go.WideShapes Go.ChangeAt Go.RowKit Go.Shelf
attribute [local go_sem] Oper.semAt_some

/-- What numbers keeps between two rounds. -/
def NI (w : World) (pre : List (Int × Int)) (W : World) : Prop :=
  Below w.heap.size w W ∧ w.heap.size + 2 < W.heap.size ∧ Box W (w.heap.size + 1 + 1) [.map (some (w.heap.size + 1))] ∧ PK W (w.heap.size + 1) (fN pre) pre.length
theorem ln_i64 {n : Int} (h : n ≤ 60) : AllI (ln n) := fun p hp => by
  obtain ⟨a, b, c, d⟩ := lnL_memX hp
  unfold I64
  omega
set_option maxRecDepth 100000 in
set_option maxHeartbeats 4000000 in
theorem numbers_any (n : Int) (n1 : 1 ≤ n) (n2 : n ≤ 60) (gu ou cu : Nat) (w : World) (hC : Cs w gu ou (cop n n.toNat)) :
    Calls Tryd.prog 68 #[.agg #[(.int .i64 n), .slice (some ⟨gu, ou, none⟩) (cop n n.toNat).length cu]] w fun e w' => ∃ b, e = .returned (.map (some b)) ∧ w.heap.size ≤ b ∧ PK w' b (fN (ln n)) (ln n).length ∧ Below w.heap.size w w' := by
  refine (callsIn_wide (n := 3)).1 ?_
  have hro : Fence.wide.round = none := rfl
  refine callsIn_of_wp_marks Tryd.func68 rfl trivial ?_ hro
  simp only [Tryd.ntmps68, List.size_toArray, List.length_cons, List.length_nil, Nat.reduceAdd, Nat.reduceSub, Array.replicate_succ, Array.replicate_zero, List.push_toArray, List.append_toArray, List.nil_append, List.cons_append]
  have hgu := hC.1
  have hmm := @run_makeMap Tryd.prog
  gi_wp2_with fail
  refine ⟨trivial, (callsIn_wide.2 (line_func n _ _)).mono ?_⟩
  rintro e w3' ⟨rfl, rfl⟩
  gi_wp2_with fail
  have T3 : Below w.heap.size w ((((w.alloc (.cells #[(.int .i64 n), .slice (some ⟨gu, ou, none⟩) (cop n n.toNat).length cu] 53)).alloc (.map #[] 0)).alloc (.cells #[.map (some (w.heap.size + 1))] 82)).alloc (.cells #[(.int .i64 n), .slice (some ⟨gu, ou, none⟩) (cop n n.toNat).length cu] 53)) := own_alloc (own_alloc (own_alloc (own_alloc (own_refl _) _) _) _) _
  have hs3 : ((((w.alloc (.cells #[(.int .i64 n), .slice (some ⟨gu, ou, none⟩) (cop n n.toNat).length cu] 53)).alloc (.map #[] 0)).alloc (.cells #[.map (some (w.heap.size + 1))] 82)).alloc (.cells #[(.int .i64 n), .slice (some ⟨gu, ou, none⟩) (cop n n.toNat).length cu] 53)).heap.size = w.heap.size + 4 := by simp
  have BC : Box ((((w.alloc (.cells #[(.int .i64 n), .slice (some ⟨gu, ou, none⟩) (cop n n.toNat).length cu] 53)).alloc (.map #[] 0)).alloc (.cells #[.map (some (w.heap.size + 1))] 82)).alloc (.cells #[(.int .i64 n), .slice (some ⟨gu, ou, none⟩) (cop n n.toNat).length cu] 53)) (w.heap.size + 1 + 1 + 1) [(.int .i64 n), .slice (some ⟨gu, ou, none⟩) (cop n n.toNat).length cu] := Box.newAt (by simp) _ _
  have BM : Box ((((w.alloc (.cells #[(.int .i64 n), .slice (some ⟨gu, ou, none⟩) (cop n n.toNat).length cu] 53)).alloc (.map #[] 0)).alloc (.cells #[.map (some (w.heap.size + 1))] 82)).alloc (.cells #[(.int .i64 n), .slice (some ⟨gu, ou, none⟩) (cop n n.toNat).length cu] 53)) (w.heap.size + 1 + 1) [.map (some (w.heap.size + 1))] := Box.alloc (Box.newAt (by simp) _ _) _
  have PM : PK ((((w.alloc (.cells #[(.int .i64 n), .slice (some ⟨gu, ou, none⟩) (cop n n.toNat).length cu] 53)).alloc (.map #[] 0)).alloc (.cells #[.map (some (w.heap.size + 1))] 82)).alloc (.cells #[(.int .i64 n), .slice (some ⟨gu, ou, none⟩) (cop n n.toNat).length cu] 53)) (w.heap.size + 1) (fN []) 0 := by
    have h := PK.made (w.alloc (.cells #[(.int .i64 n), .slice (some ⟨gu, ou, none⟩) (cop n n.toNat).length cu] 53))
    rw [World.size_alloc] at h
    exact (h.below (own_alloc (own_refl _) _)).below (own_alloc (own_refl _) _)
  have hC3 : Cs ((((w.alloc (.cells #[(.int .i64 n), .slice (some ⟨gu, ou, none⟩) (cop n n.toNat).length cu] 53)).alloc (.map #[] 0)).alloc (.cells #[.map (some (w.heap.size + 1))] 82)).alloc (.cells #[(.int .i64 n), .slice (some ⟨gu, ou, none⟩) (cop n n.toNat).length cu] 53)) gu ou (cop n n.toNat) := hC.below T3
  generalize (((w.alloc (.cells #[(.int .i64 n), .slice (some ⟨gu, ou, none⟩) (cop n n.toNat).length cu] 53)).alloc (.map #[] 0)).alloc (.cells #[.map (some (w.heap.size + 1))] 82)).alloc (.cells #[(.int .i64 n), .slice (some ⟨gu, ou, none⟩) (cop n n.toNat).length cu] 53) = W3 at *
  have I3 : NI w [] W3 := ⟨T3, by omega, BM, PM⟩
  have OI : OwnC W3.heap.size (W3.heap.size + 2) (NI w) := by
    rintro s X Y row ⟨h1, h2, h3, h4⟩ hg hr
    exact ⟨h1.grown hg (by omega) (fun k e => by have := hr k e; omega), Nat.lt_of_lt_of_le h2 hg.size, h3.rowC hg (fun r e => by have := hr r e; omega), h4.kept hg (fun e => by have := hr _ e.symm; omega)⟩
  have hKw : ∀ b, (b = w.heap.size + 1 + 1 + 1 ∨ b = gu) → b ≠ w.heap.size + 1 ∧ b ≠ w.heap.size + 1 + 1 ∧ b < W3.heap.size := fun b hb => by
    rcases hb with rfl | rfl <;> omega
  refine rangeZ (gf := 93) (lb := #[.pointer (some ⟨w.heap.size + 1 + 1 + 1, 0, none⟩)]) rfl (fun _ _ => by kernel_rfl) (lineSeq n n1 n2 (w.heap.size + 1 + 1 + 1) gu ou cu (fun b => b = w.heap.size + 1 + 1 + 1 ∨ b = gu) (.inl rfl) (.inr rfl) W3 BC hC3) (own_refl _) (fun b hb => (hKw b hb).2.2) (fun _ => rfl)
    (NI w) (fun _ _ _ => False) OI (fun _ _ _ _ _ h _ _ => h) I3 (fun x a' W => ∃ g, W3.heap.size + 2 ≤ g ∧ Box W g [(.int .i64 x.1), (.int .i64 x.2)] ∧ a' = { tmps := #[.agg #[(.int .i64 n), .slice (some ⟨gu, ou, none⟩) (cop n n.toNat).length cu], .pointer (some ⟨w.heap.size, 0, none⟩), .map none, .pointer (some ⟨w.heap.size + 1 + 1, 0, none⟩), .pointer (some ⟨g, 0, none⟩), .map (some (w.heap.size + 1)), .agg #[(.int .i64 n), .slice (some ⟨gu, ou, none⟩) (cop n n.toNat).length cu], .func (.func 93) #[] #[.pointer (some ⟨w.heap.size + 1 + 1 + 1, 0, none⟩)], .agg #[(.int .i64 x.1), (.int .i64 x.2)], undef, undef, undef, undef, undef], defers := [] }) ?hAx ?assign ?body ?done ?stop
  case hAx =>
    rintro x s X Y row ⟨g, h1, h2, h3⟩ hg hr
    exact ⟨g, h1, h2.rowC hg (fun r e => by have := hr r e; omega), h3⟩
  case assign =>
    rintro l pre x W K hI hz hK
    simp only [encP]
    gi_wp2
    exact hK _ _ (KeepZ.grown (World.grownBy_alloc _ _ none) (fun r e => by cases e)) (OI.belowZ hI (own_alloc (own_refl _) _)) ⟨W.heap.size, hz, Box.new _ _ _, rfl⟩
  case body =>
    rintro l pre x a' W hI ⟨g, hg, hB, rfl⟩ hz hnx
    obtain ⟨T, hsz, B0, G⟩ := hI
    have hsub := hnx.subset
    have hxl : x ∈ ln n := hsub (by simp)
    have hxi := ln_i64 n2 x hxl
    have hpi : AllI pre := fun p hp => ln_i64 n2 p (hsub (by simp [hp]))
    have hxn : x ∉ pre := fun hm => by
      have hnd := (ln_nodup n).sublist hnx.sublist
      exact (List.nodup_append.1 hnd).2.2 _ hm x (by simp) rfl
    have hlen : pre.length ≤ 3600 := by
      have := hnx.length_le
      have h2 := ln_len n2
      simp at this
      omega
    obtain ⟨x0, x1⟩ := x
    obtain ⟨_, g0, g1, _, _⟩ := hB.two
    obtain ⟨_, hv0, hv1⟩ := B0.one
    obtain ⟨w6, hr, hP6, hg6⟩ := G.put (by omega) (x0, x1) hxi.1 hxi.2 (pre.length : Int) (fN_none pre (x0, x1) hpi hxi.1 hxi.2 hxn)
    have hl := G.len
    simp only [prV] at hr g0 g1
    clear hsub hxl hpi hxn hnx
    gi_wp2
    refine ⟨KeepZ.grown hg6 fun r e => ?_, ?_, ?_, ?_, ?_⟩
    · injection e with e
      rintro (h | h)
      · have := hKw r h; omega
      · omega
    · exact T.grown hg6 (by omega) (fun k e => by injection e with e; omega)
    · have := hg6.size; omega
    · exact B0.rowC hg6 (fun r e => by injection e with e; omega)
    · rw [fN_snoc, List.length_append]
      exact hP6
  case done =>
    rintro ys W hS hI hD
    obtain ⟨T, hsz, B0, G⟩ := hI
    obtain ⟨_, hv0, hv1⟩ := B0.one
    gi_wp2
    refine ⟨by simp, .inl ⟨_, _, rfl, run_takeDeferred hD, ?_⟩⟩
    exact ⟨_, by simp [results, Tryd.results68, go_sem], w.heap.size + 1, rfl, by omega, by rw [← hS]; exact G.kept (grownBy_putObj' W W3.heap.size (.deferred none)) (fun e => by injection e with e; omega), T.grown (grownBy_putObj' _ _ _) T.size (fun k e => by cases e; omega)⟩
  case stop =>
    rintro c pre W hpre hI hD
    exact hI.elim
end Go.Proofs.YtejghidllochoaaDoor
