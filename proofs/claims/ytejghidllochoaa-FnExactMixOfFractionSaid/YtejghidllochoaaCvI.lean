/- impl.convergents: the iterator's contract. -/
import Derived.Test.YtejghidllochoaaCvM
import Derived.Test.YtejghidllochoaaRfL
import Derived.Sort.CutIn
import Derived.Sort.QuietIn
namespace Go.Proofs.Ytejghidllochoaa
open Go.ChangeShapes Go.WideShapes Go.ChangeAt Go.RowKit Go.Shelf
attribute [local go_sem] Oper.semAt_some

theorem Box.of_heap {w w' : World} {g : Nat} {xs : List Value} (h : Box w g xs) (he : w'.heap[g]? = w.heap[g]?) (hs : w.heap.size ≤ w'.heap.size) : Box w' g xs :=
  ⟨Nat.lt_of_lt_of_le h.1 hs, fun i v hv => ⟨(World.cell?_of_block (a := ⟨g, i, none⟩) he).trans (h.2 i v hv).1, (World.frozen?_of_block (a := ⟨g, i, none⟩) he).trans (h.2 i v hv).2⟩⟩
def encF (x : Int × Int) : Array Value := #[(.agg #[.int .i64 x.1, .int .i64 x.2])]
theorem OwnC.set {β : Type} {B U : Nat} {J : β → World → Prop} (h : OwnC B U J) {s : β} {W : World} (hs : J s W) {p : Addr} (h1 : B ≤ p.block) (h2 : p.block < U) (v : Value) : J s (W.setCell p v) :=
  h s W _ (some p.block) hs ⟨rfl, rfl, rfl, by simp [World.setCell], fun k _ hk => Below.heap_setCell W p v k (fun e => hk (by rw [e]))⟩ (fun r e => by cases e; exact ⟨h1, h2⟩)
theorem OwnC.alloc {β : Type} {B U : Nat} {J : β → World → Prop} (h : OwnC B U J) {s : β} {W : World} (hs : J s W) (o : Obj) : J s (W.alloc o) :=
  h s W _ none hs (World.grownBy_alloc W o none) (fun r e => by cases e)
theorem OwnC.drew {β : Type} {B U : Nat} {J : β → World → Prop} (h : OwnC B U J) {s : β} {W : World} (hs : J s W) : J s W.drew :=
  h s W _ none hs ⟨rfl, rfl, rfl, Nat.le_refl _, fun _ _ _ => rfl⟩ (fun r e => by cases e)

set_option maxRecDepth 100000 in
set_option maxHeartbeats 4000000 in
theorem convSeq (xs : List Int) (hn : xs.length ≤ 1000000) (ad : Option Addr) (cap cb b off : Nat) (had : 0 < xs.length → ad = some ⟨b, off, none⟩) (Kb : Nat → Prop) (hk2 : Kb b) (w0 : World)
    (hB : Box w0 cb [.slice ad xs.length cap]) (hc : ∀ k, k < xs.length → b < w0.heap.size ∧ w0.cell? ⟨b, off + k, none⟩ = some (.int .i64 (xs.getD k 0))) :
    SeqC Try.prog 37 #[.pointer (some ⟨cb, 0, none⟩)] encF Kb (fun pre x => (pre ++ [x]) <+: cvs xs) (fun ys => ys = cvs xs) (fun pre => pre <+: cvs xs) w0 := by
  intro l J Jx W hW hJ hJx hY h0
  have hro : Fence.wide.round = none := rfl
  refine callsIn_of_wp Try.func37 rfl trivial ?_ hro
  simp only [Try.ntmps37, List.size_toArray, List.length_cons, List.length_nil, Nat.reduceAdd, Nat.reduceSub, Array.replicate_succ, Array.replicate_zero, List.push_toArray, List.append_toArray, List.nil_append, List.cons_append]
  have hBW := hB.below hW
  obtain ⟨_, hb1, hb2⟩ := hBW.one
  gi_wp2
  gi_loopw [11] (fun i wr => ∃ k : Nat, k ≤ xs.length ∧ i = (.int .i64 k) ∧ J (cvs (xs.take k)) wr ∧ W.heap.size + 2 ≤ wr.heap.size ∧ (0 < xs.length → wr.heap[b]? = W.heap[b]?) ∧
      Box wr W.heap.size [.int .i64 ((cst (xs.take k)).1.1), .int .i64 ((cst (xs.take k)).1.2)] ∧ Box wr (W.heap.size + 1) [.int .i64 ((cst (xs.take k)).2.1), .int .i64 ((cst (xs.take k)).2.2)]) (fun i _ => xs.length - (intOf i).toNat)
  case atStart =>
    refine ⟨0, Nat.zero_le _, rfl, hJ.alloc (hJ.alloc h0 _) _, by simp, fun h => ?_, Box.alloc (Box.new _ _ _) _, Box.newAt (by simp) _ _⟩
    have hlt := Nat.lt_of_lt_of_le (hc 0 h).1 hW.size
    exact (Below.heap_alloc _ _ _ (by simp; omega)).trans (Below.heap_alloc _ _ _ hlt)
  case round =>
    obtain ⟨k, hk, rfl, hJk, hz, hbk, B3, B4⟩ := hrel
    by_cases hlt : k < xs.length
    · obtain ⟨x, hx⟩ : ∃ x, xs.getD k 0 = x := ⟨_, rfl⟩
      obtain ⟨hcv, hcs⟩ := cvs_take xs k hlt x hx
      have hnx : (cvs (xs.take k) ++ [(cst (xs.take (k + 1))).2]) <+: cvs xs := hcv ▸ cvs_prefix xs (k + 1)
      obtain ⟨hb0, hc0⟩ := hc k hlt
      have c1 : wr.cell? ⟨b, off + k, none⟩ = some (.int .i64 x) := (World.cell?_of_block (a := ⟨b, off + k, none⟩) (hbk (by omega))).trans ((hW.cell (p := ⟨b, off + k, none⟩) hb0).trans (by rw [hc0, hx]))
      obtain rfl := had (by omega)
      generalize hs : cst (xs.take k) = st at *
      obtain ⟨⟨b0, b1⟩, ⟨f0, f1⟩⟩ := st
      obtain ⟨_, _, _, _, _⟩ := B3.two
      obtain ⟨_, _, _, _, _⟩ := B4.two
      simp only [stepC] at hcs
      obtain ⟨y0, hy0⟩ : ∃ y0, wrap64 (wrap64 (x * f0) + b0) = y0 := ⟨_, rfl⟩
      obtain ⟨y1, hy1⟩ : ∃ y1, wrap64 (wrap64 (x * f1) + b1) = y1 := ⟨_, rfl⟩
      rw [hy0, hy1] at hcs
      gi_upto_region 4 with fail
      refine wpIn_wide.2 ?_
      go_region
      rw [hy0, hy1]
      have hB3 : Box ((((wr.setCell ⟨W.heap.size, 0, none⟩ (.int .i64 f0)).setCell ⟨W.heap.size, 1, none⟩ (.int .i64 f1)).setCell ⟨W.heap.size + 1, 0, none⟩ (.int .i64 y0)).setCell ⟨W.heap.size + 1, 1, none⟩ (.int .i64 y1)).drew W.heap.size [.int .i64 f0, .int .i64 f1] := Box.drew (((B3.put2 (.int .i64 f0) (.int .i64 f1)).far (p := ⟨W.heap.size + 1, 0, none⟩) (by dsimp only; omega) (.int .i64 y0)).far (p := ⟨W.heap.size + 1, 1, none⟩) (by dsimp only; omega) (.int .i64 y1))
      have hB4 : Box ((((wr.setCell ⟨W.heap.size, 0, none⟩ (.int .i64 f0)).setCell ⟨W.heap.size, 1, none⟩ (.int .i64 f1)).setCell ⟨W.heap.size + 1, 0, none⟩ (.int .i64 y0)).setCell ⟨W.heap.size + 1, 1, none⟩ (.int .i64 y1)).drew (W.heap.size + 1) [.int .i64 y0, .int .i64 y1] := Box.drew (Box.put2 ((B4.far (p := ⟨W.heap.size, 0, none⟩) (by dsimp only; omega) (.int .i64 f0)).far (p := ⟨W.heap.size, 1, none⟩) (by dsimp only; omega) (.int .i64 f1)) (.int .i64 y0) (.int .i64 y1))
      have hJ1 : J (cvs (xs.take k)) ((((wr.setCell ⟨W.heap.size, 0, none⟩ (.int .i64 f0)).setCell ⟨W.heap.size, 1, none⟩ (.int .i64 f1)).setCell ⟨W.heap.size + 1, 0, none⟩ (.int .i64 y0)).setCell ⟨W.heap.size + 1, 1, none⟩ (.int .i64 y1)).drew := hJ.drew (hJ.set (hJ.set (hJ.set (hJ.set hJk (by dsimp only; omega) (by dsimp only; omega) _) (by dsimp only; omega) (by dsimp only; omega) _) (by dsimp only; omega) (by dsimp only; omega) _) (by dsimp only; omega) (by dsimp only; omega) _)
      have hz1 : W.heap.size + 2 ≤ (((((wr.setCell ⟨W.heap.size, 0, none⟩ (.int .i64 f0)).setCell ⟨W.heap.size, 1, none⟩ (.int .i64 f1)).setCell ⟨W.heap.size + 1, 0, none⟩ (.int .i64 y0)).setCell ⟨W.heap.size + 1, 1, none⟩ (.int .i64 y1)).drew).heap.size := by simpa using hz
      have hbE : b ≠ W.heap.size ∧ b ≠ W.heap.size + 1 := by have := hW.size; omega
      have hbk1 : (((((wr.setCell ⟨W.heap.size, 0, none⟩ (.int .i64 f0)).setCell ⟨W.heap.size, 1, none⟩ (.int .i64 f1)).setCell ⟨W.heap.size + 1, 0, none⟩ (.int .i64 y0)).setCell ⟨W.heap.size + 1, 1, none⟩ (.int .i64 y1)).drew).heap[b]? = W.heap[b]? := by
        refine Eq.trans ?_ (hbk (by omega))
        exact (Below.heap_setCell _ ⟨W.heap.size + 1, 1, none⟩ _ b hbE.2).trans ((Below.heap_setCell _ ⟨W.heap.size + 1, 0, none⟩ _ b hbE.2).trans ((Below.heap_setCell _ ⟨W.heap.size, 1, none⟩ _ b hbE.1).trans (Below.heap_setCell _ ⟨W.heap.size, 0, none⟩ _ b hbE.1)))
      generalize ((((wr.setCell ⟨W.heap.size, 0, none⟩ (.int .i64 f0)).setCell ⟨W.heap.size, 1, none⟩ (.int .i64 f1)).setCell ⟨W.heap.size + 1, 0, none⟩ (.int .i64 y0)).setCell ⟨W.heap.size + 1, 1, none⟩ (.int .i64 y1)).drew = wz at *
      obtain ⟨_, _, _, _, _⟩ := hB4.two
      have hcs2 : (cst (xs.take (k + 1))).2 = (y0, y1) := by rw [hcs]
      obtain ⟨fn, tmps, assign, body, hy, hR⟩ := hY _ _ _ hJ1 hz1 hnx
      rw [hcs2] at hy hR
      simp only [encF] at hy
      gi_wp2
      refine hR.mono ?_
      rintro e W3 (⟨rfl, hJ3, hz3, hk3⟩ | ⟨rfl, hJx3⟩)
      · gi_wp2
        go_roundw
        case rel =>
          refine ⟨k + 1, hlt, by go_num, ?_, by omega, fun h => ?_, ?_, ?_⟩
          · rw [hcv, hcs2]; exact hJ3
          · exact (hk3 b (.inl hk2) (by have := hW.size; omega)).trans hbk1
          · rw [hcs]; exact hB3.of_heap (hk3 _ (.inr (.inl rfl)) hB3.1) hz3
          · rw [hcs]; exact hB4.of_heap (hk3 _ (.inr (.inr rfl)) hB4.1) hz3
        case measure => simp [intOf]; omega
      · gi_wp2
        refine bodyPost_ret (results_none rfl _ _ _) rfl ?_
        exact ⟨⟨_, rfl⟩, .inr ⟨_, hcs2 ▸ hnx, hJx3⟩⟩
    · have hke : k = xs.length := by omega
      subst hke
      gi_wp2
      go_end0
      rw [List.take_length] at hJk
      exact ⟨⟨_, rfl⟩, .inl ⟨_, rfl, hJk⟩⟩
end Go.Proofs.Ytejghidllochoaa
