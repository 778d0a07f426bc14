/- A slice of integers among the arguments, opened; and the row's end where an argument lies in memory. Actions: lists of the numbers below n, the points met, renumbered lists. Mathematics only. Actions: two lists in blocks of their own; the laws' helpers over them. slices.Contains at integers, and slices.IndexFunc over rows with the closure of CuspOfFraction (its first part is XAcP's: never import both). -/
import Derived.Test.YtdcomnnpnhinfaaDoorBase
import Derived.ChangeSlices
import Derived.Carry
import Derived.Test.YtdcomnnpnhinfaaDoorSl
import Derived.Test.YtdcomnnpnhinfaaDoorGr
import Derived.Test.YtdcomnnpnhinfaaDoorSS
import Derived.OwnWalk
import Derived.Test.YtdcomnnpnhinfaaDoorMS
/- A slice of integers among the arguments, opened; and the row's end where an argument lies in memory. -/
namespace Go.Proofs.YtdcomnnpnhinfaaDoor
open Go.ChangeShapes Go.WideShapes Go.ChangeAt Go.RowKit

/-- The address a, where there is something to read, leads to the integers xs, in blocks that are there. -/
def Rs (w : World) (a : Option Addr) (xs : List Int) : Prop := 0 < xs.length → ∃ b off, a = some ⟨b, off, none⟩ ∧ b < w.heap.size ∧ ∀ k, k < xs.length → w.cell? ⟨b, off + k, none⟩ = some (.int .i64 (xs.getD k 0))
theorem Rs.below {w w' : World} {a : Option Addr} {xs : List Int} (h : Rs w a xs) (hb : Below w.heap.size w w') : Rs w' a xs := by
  intro h0
  obtain ⟨b, off, rfl, hlt, hc⟩ := h h0
  exact ⟨b, off, rfl, Nat.lt_of_lt_of_le hlt hb.size, fun k hk => (hb.cell (p := ⟨b, off + k, none⟩) hlt).trans (hc k hk)⟩

section
variable {H : Type} {enc : TypeId × Value → H} {W : World} {b0 : Nat}
theorem cells_i64' : Tryd.prog.cellsOf 2 = 1 := by kernel_rfl
set_option maxRecDepth 100000 in
theorem openL {r : Reach} {v : Value} {d : DataW H} {p : List MemPlace} (hv : Value.okWide Tryd.prog W r b0 22 v)
    (h : DataW.Trod enc Tryd.prog W 0 (fun _ => true) true 22 v d p) (hlt : ∀ x ∈ p, x.block < W.heap.size) :
    ∃ (xs : List Int) (a : Option Addr) (cap : Nat), v = .slice a xs.length cap ∧ Rs W a xs ∧ (∀ x ∈ xs, I64 x) ∧ xs.length ≤ 9223372036854775807 := by
  obtain ⟨a0, len, cap, rfl⟩ := okWide_slice Tryd.underlying22 hv
  obtain ⟨fuel, hf⟩ := h
  rcases open_ints Tryd.underlying22 Tryd.underlying2 cells_i64' hf with ⟨hcs, hx⟩ | ⟨a, len', cap', zs, hcs, _, hl, hm, hz, hx, hcell, hwz⟩
  · simp [Value.cells] at hcs
    obtain ⟨rfl, rfl, rfl⟩ := hcs
    exact ⟨[], none, 0, rfl, fun h => absurd h (by simp), fun x hx => by simp at hx, by simp⟩
  · simp [Value.cells] at hcs
    obtain ⟨rfl, rfl, rfl⟩ := hcs
    simp only [Prod.mk.injEq] at hx
    obtain ⟨rfl, rfl⟩ := hx
    simp only [if_true] at hz
    have hlen : (zs.take len).length = len := by rw [List.length_take]; omega
    refine ⟨zs.take len, some a, cap, by rw [hlen], fun h0 => ?_, fun x hx => i64_of_wf (hwz x (List.mem_of_mem_take hx)), ?_⟩
    · obtain ⟨b, off, spot⟩ := a
      have hspot : spot = none := by simpa [Addr.add] using World.cell?_spot (hcell 0 (by omega))
      subst hspot
      refine ⟨b, off, rfl, hlt (.cell b off) (MemPlace.mem_row.2 ⟨0, by omega, by simp⟩), fun k hk => ?_⟩
      have := hcell k (by omega)
      rw [add_plain] at this
      rw [this, List.getD, List.getD, List.getElem?_take_of_lt (by omega)]
    · have : cap ≤ 9223372036854775807 := hm
      omega
end

section
variable {H : Type} {enc : TypeId × Value → H} {P : Program}
theorem post_one {f : Func} {s : ChangeSpec} {apart fresh handsOn : Bool} {W W' : World} {args : Array Value} {v : Value} {ds gs : List (DataW H)} {before pa pv : List MemPlace}
    (hW : DataW.Whole enc P f.params.toList s.vars apart W args.toList ds gs before)
    (hres : ∀ (b : Nat) (sp : Nat → Bool) (hd : Bool), DataW.TrodAll enc P W' b sp hd f.resultTypes.toList (v.resultList f.resultTypes.size) (s.fn H (ds ++ gs)).results [])
    (hargs : DataW.TrodAll enc P W' 0 (fun b => decide (b < W.heap.size)) true f.params.toList args.toList (s.fn H (ds ++ gs)).args pa)
    (hvars : DataW.TrodVars enc P W' (fun b => decide (b < W.heap.size)) s.vars (s.fn H (ds ++ gs)).vars pv)
    (hps : before = pa ++ pv) (hb : Below W.heap.size W W') : s.post enc P f apart fresh handsOn false W args v W' := by
  refine ⟨ds, gs, before, [], pa, pv, hW, hres _ _ _, hargs, hvars, World.keptBut_mono (fun p hp => ⟨hp, ?_⟩) (hb.frame (· ∈ before)), fun h => by cases h⟩
  exact Or.inr (List.mem_append.1 (hps ▸ hp))
end
end Go.Proofs.YtdcomnnpnhinfaaDoor
/- The law's helper that copies a slice of integers. -/
namespace Go.Proofs.YtdcomnnpnhinfaaDoor
open Go.ChangeShapes Go.WideShapes Go.ChangeAt Go.RowKit

theorem made64T (n : Nat) (hn : n ≤ 1048576) (w : World) : (Instr.makeSlice 22 (.int .i64 n) (.int .i64 n)).run Tryd.prog w =
    .ok (.slice (some ⟨w.heap.size, 0, none⟩) n n) (w.alloc (.cells ((List.replicate n (0 : Int)).map (Value.int .i64)).toArray 2)) := by
  obtain ⟨i0, hi, hz0, hz1, hz2⟩ := info_parts info_i64
  have h := run_make (P := Tryd.prog) (w := w) 22 2 i0 (.int .i64 0) Tryd.underlying22 hi hz0 .i64 .i64 n n (by omega) (Int.le_refl _) (by rw [hz2]; omega) (by omega)
  rw [h, hz1]
  have e : madeCells (Value.int .i64 0).cells ((n : Int).toNat * 1) = ((List.replicate n (0 : Int)).map (Value.int .i64)).toArray := by
    apply Array.ext
    · simp [size_madeCells]
    · intro i h1 h2
      simp [madeCells, Value.cells, Nat.mod_one]
  rw [e]
  simp
theorem part_set (xs : List Int) (k : Nat) (hk : k < xs.length) (x : Int) (hx : xs.getD k 0 = x) :
    (((xs.take k ++ List.replicate (xs.length - k) 0).map (Value.int .i64)).set k (.int .i64 x)) = (xs.take (k + 1) ++ List.replicate (xs.length - (k + 1)) 0).map (Value.int .i64) := by
  subst hx
  rw [← List.map_set]
  congr 1
  apply List.ext_getElem
  · simp; omega
  · intro i h1 h2
    simp only [List.getElem_set, List.getElem_append, List.getElem_take, List.length_take, List.getElem_replicate]
    by_cases e : k = i
    · subst e
      simp [hk, List.getD]
      omega
    · rw [if_neg e]
      by_cases h3 : i < k
      · rw [dif_pos (by omega), dif_pos (by omega)]
      · rw [dif_neg (by omega), dif_neg (by omega)]

set_option maxHeartbeats 1000000 in
theorem toS_full (a : Option Addr) (cap : Nat) (xs : List Int) (hn : xs.length ≤ 1048576) (w : World) (hr : Rs w a xs) :
    Calls Tryd.prog 17 #[.slice a xs.length cap] w fun e w' => ∃ v, e = .returned v ∧ Sl w' w.heap.size w'.heap.size v xs ∧ Below w.heap.size w w' ∧ ∃ a', v = .slice a' xs.length xs.length := by
  rcases Nat.eq_zero_or_pos xs.length with h0 | h0
  · obtain rfl : xs = [] := List.length_eq_zero_iff.1 h0
    clear hr hn h0
    have hmk : ∀ w : World, (Instr.makeSlice 22 (.int .i64 0) (.int .i64 0)).run Tryd.prog w = .ok (.slice (some ⟨w.heap.size, 0, none⟩) 0 0) (w.alloc (.cells #[] 2)) := fun w => by simpa using made64T 0 (by omega) w
    go_enter Tryd.func17, Tryd.ntmps17
    go_wp2
    go_loopw [4] (fun i wr => i = (.int .i64 0) ∧ Below w.heap.size w wr ∧ w.heap.size + 1 ≤ wr.heap.size) (fun _ _ => 0)
    case atStart => exact ⟨rfl, by repeat (first | with_reducible exact own_refl _ | with_reducible assumption | with_reducible apply own_alloc | with_reducible apply own_drewN | with_reducible apply own_drew | ((with_reducible refine own_setCell ?_ ?_ _); rotate_left; focus (first | (simp; done) | (simp; omega))) | (with_reducible (refine own_trans ?_ (by assumption)))), by simp⟩
    case round =>
      obtain ⟨rfl, T, hz⟩ := hrel
      go_wp2
      go_ret
      exact ⟨_, rfl, ⟨Nat.le_refl _, _, _, rfl, fun h => absurd h (by simp)⟩, T, _, rfl⟩
  · obtain ⟨b, off, rfl, hb, hc⟩ := hr h0
    have HC := Lib.hid hc
    clear hc
    have hmk := made64T xs.length hn
    go_enter Tryd.func17, Tryd.ntmps17
    go_wp2
    go_loopw [4] (fun i wr => ∃ k : Nat, k ≤ xs.length ∧ i = (.int .i64 k) ∧ Below w.heap.size w wr ∧ Box wr w.heap.size ((xs.take k ++ List.replicate (xs.length - k) 0).map (Value.int .i64))) (fun i _ => xs.length - (intOf i).toNat)
    case atStart => exact ⟨0, Nat.zero_le _, rfl, by repeat (first | with_reducible exact own_refl _ | with_reducible assumption | with_reducible apply own_alloc | with_reducible apply own_drewN | with_reducible apply own_drew | ((with_reducible refine own_setCell ?_ ?_ _); rotate_left; focus (first | (simp; done) | (simp; omega))) | (with_reducible (refine own_trans ?_ (by assumption)))), by simpa using Box.new w ((List.replicate xs.length (0 : Int)).map (Value.int .i64)) 2⟩
    case round =>
      obtain ⟨k, hk, rfl, T, hB⟩ := hrel
      by_cases hlt : k < xs.length
      · obtain ⟨x, hx⟩ : ∃ x, xs.getD k 0 = x := ⟨_, rfl⟩
        have c1 : wr.cell? ⟨b, off + k, none⟩ = some (.int .i64 x) := by rw [T.cell (p := ⟨b, off + k, none⟩) hb, ← hx]; exact HC.out k hlt
        have hg : ((xs.take k ++ List.replicate (xs.length - k) 0).map (Value.int .i64))[k]? = some (.int .i64 0) := by
          rw [List.getElem?_map, List.getElem?_append_right (by rw [List.length_take]; omega), List.getElem?_replicate, if_pos (by rw [List.length_take]; omega)]
          rfl
        obtain ⟨c2, f2⟩ := hB.2 k _ hg
        have HX := Lib.hid hx
        clear hx hg
        go_wp2
        go_roundw
        case rel => exact ⟨k + 1, by omega, by go_num, by repeat (first | with_reducible exact own_refl _ | with_reducible assumption | with_reducible apply own_alloc | with_reducible apply own_drewN | with_reducible apply own_drew | ((with_reducible refine own_setCell ?_ ?_ _); rotate_left; focus (first | (simp; done) | (simp; omega))) | (with_reducible (refine own_trans ?_ (by assumption)))), by rw [← part_set xs k hlt x HX.out]; exact hB.set k (by simp; omega) _⟩
        case measure => simp [intOf]; omega
      · have hke : k = xs.length := by omega
        have HB : Hid (Box wr w.heap.size (xs.map (Value.int .i64))) := Lib.hid (by subst hke; simpa using hB)
        clear hke hB
        go_wp2
        go_ret
        refine ⟨_, rfl, ⟨Nat.le_refl _, _, _, rfl, fun _ => ⟨w.heap.size, 0, rfl, Nat.le_refl _, HB.out.1, fun j hj => ?_⟩⟩, T, _, rfl⟩
        rw [Nat.zero_add]
        exact HB.out.2 j _ (by simp [List.getD, List.getElem?_eq_getElem hj])
theorem toS_any (a : Option Addr) (cap : Nat) (xs : List Int) (hn : xs.length ≤ 1048576) (w : World) (hr : Rs w a xs) :
    Calls Tryd.prog 17 #[.slice a xs.length cap] w fun e w' => ∃ v, e = .returned v ∧ Sl w' w.heap.size w'.heap.size v xs ∧ Below w.heap.size w w' :=
  (toS_full a cap xs hn w hr).mono fun _ _ ⟨v, h1, h2, h3, _⟩ => ⟨v, h1, h2, h3⟩
end Go.Proofs.YtdcomnnpnhinfaaDoor
/- Actions: lists of the numbers below n, the points met, renumbered lists. Mathematics only. -/
namespace Go.Proofs.YtdcomnnpnhinfaaDoor

/-- each number is below the flags' count and met once -/
def ordG : List Int → List Bool → Bool
  | [], _ => true
  | x :: r, m => if 0 ≤ x ∧ x < (m.length : Int) ∧ m.getD x.toNat false = false then ordG r (m.set x.toNat true) else false
def ord (xs : List Int) (n : Nat) : Bool := decide (xs.length = n) && ordG xs (List.replicate n false)
/-- where a list leads a number -/
def pt (xs : List Int) (i : Nat) : Nat := (xs.getD i 0).toNat
theorem getB_set {m : List Bool} {i j : Nat} (hj : j < m.length) : (m.set j true).getD i false = if i = j then true else m.getD i false := by
  by_cases e : i = j
  · subst e; simp [List.getD, hj]
  · rw [if_neg e]; simp [List.getD, List.getElem?_set_ne (Ne.symm e)]
theorem ordG_is : ∀ (xs : List Int) (m : List Bool), ordG xs m = true → xs.Nodup ∧ ∀ x ∈ xs, 0 ≤ x ∧ x < (m.length : Int) ∧ m.getD x.toNat false = false
  | [], _, _ => by simp
  | x :: r, m, h => by
    rw [ordG] at h
    by_cases hx : 0 ≤ x ∧ x < (m.length : Int) ∧ m.getD x.toNat false = false
    · rw [if_pos hx] at h
      obtain ⟨h1, h2⟩ := ordG_is r _ h
      have hl : x.toNat < m.length := by omega
      have h3 : ∀ y ∈ r, 0 ≤ y ∧ y < (m.length : Int) ∧ y ≠ x ∧ m.getD y.toNat false = false := fun y hy => by
        obtain ⟨a, b, c⟩ := h2 y hy
        rw [List.length_set] at b
        rw [getB_set hl] at c
        by_cases e : y.toNat = x.toNat
        · rw [if_pos e] at c; simp at c
        · rw [if_neg e] at c
          exact ⟨a, b, fun he => e (by rw [he]), c⟩
      refine ⟨List.nodup_cons.2 ⟨fun hm => (h3 x hm).2.2.1 rfl, h1⟩, fun y hy => ?_⟩
      rcases List.mem_cons.1 hy with rfl | hy
      · exact hx
      · obtain ⟨a, b, _, c⟩ := h3 y hy
        exact ⟨a, b, c⟩
    · rw [if_neg hx] at h
      simp at h
/-- a list of the numbers below n, each once -/
structure Pm (xs : List Int) (n : Nat) : Prop where
  len : xs.length = n
  nodup : xs.Nodup
  bd : ∀ x ∈ xs, 0 ≤ x ∧ x < (n : Int)
theorem ord_is {xs : List Int} {n : Nat} (h : ord xs n = true) : Pm xs n := by
  rw [ord, Bool.and_eq_true] at h
  obtain ⟨h1, h2⟩ := ordG_is xs _ h.2
  have h0 : xs.length = n := of_decide_eq_true h.1
  refine ⟨h0, h1, fun x hx => ?_⟩
  obtain ⟨a, b, _⟩ := h2 x hx
  rw [List.length_replicate] at b
  exact ⟨a, b⟩
theorem getD_mem {xs : List Int} {i : Nat} (h : i < xs.length) : xs.getD i 0 ∈ xs := by
  have : xs.getD i 0 = xs[i] := by simp [List.getD, h]
  rw [this]
  exact List.getElem_mem h
/-- the numbers of a list lie below n -/
def Bd (xs : List Int) (n : Nat) : Prop := ∀ i, i < xs.length → 0 ≤ xs.getD i 0 ∧ xs.getD i 0 < (n : Int)
theorem Bd.at {xs : List Int} {n : Nat} (h : Bd xs n) {i : Nat} (hi : i < xs.length) : xs.getD i 0 = (pt xs i : Int) ∧ pt xs i < n := by
  obtain ⟨a, b⟩ := h i hi
  unfold pt
  omega
theorem Pm.b {xs : List Int} {n : Nat} (h : Pm xs n) : Bd xs n := fun _ hi => h.bd _ (getD_mem hi)
theorem Pm.at {xs : List Int} {n : Nat} (h : Pm xs n) {i : Nat} (hi : i < n) : xs.getD i 0 = (pt xs i : Int) ∧ pt xs i < n := h.b.at (by rw [h.len]; exact hi)
theorem nodup_at {xs : List Int} (h : xs.Nodup) {i j : Nat} (hi : i < xs.length) (hj : j < xs.length) (e : xs.getD i 0 = xs.getD j 0) : i = j := by
  have e1 : xs.getD i 0 = xs[i] := by simp [List.getD, hi]
  have e2 : xs.getD j 0 = xs[j] := by simp [List.getD, hj]
  rw [e1, e2] at e
  have hp := List.pairwise_iff_getElem.1 h
  rcases Nat.lt_trichotomy i j with h1 | h1 | h1
  · exact absurd e (hp i j hi hj h1)
  · exact h1
  · exact absurd e.symm (hp j i hj hi h1)
theorem Pm.inj {xs : List Int} {n : Nat} (h : Pm xs n) {i j : Nat} (hi : i < n) (hj : j < n) (e : pt xs i = pt xs j) : i = j := by
  refine nodup_at h.nodup (by rw [h.len]; exact hi) (by rw [h.len]; exact hj) ?_
  rw [(h.at hi).1, (h.at hj).1, e]
theorem nodup_le : ∀ (n : Nat) (l : List Int), l.Nodup → (∀ x ∈ l, 0 ≤ x ∧ x < (n : Int)) → l.length ≤ n
  | 0, l, _, h => by
    cases l with
    | nil => simp
    | cons x r => have := h x List.mem_cons_self; omega
  | n + 1, l, hd, h => by
    have h1 := nodup_le n (l.erase (n : Int)) (hd.erase _) fun x hx => by
      rw [hd.mem_erase_iff] at hx
      have := h x hx.2
      have := hx.1
      omega
    rw [List.length_erase] at h1
    split at h1 <;> omega
/-- a predicate from k on, r numbers -/
def allD (p : Nat → Bool) (k : Nat) : Nat → Bool
  | 0 => true
  | r + 1 => p k && allD p (k + 1) r
theorem allD_at {p : Nat → Bool} : ∀ {r k : Nat}, allD p k r = true → ∀ i, k ≤ i → i < k + r → p i = true
  | 0, k, _, i, h1, h2 => by omega
  | r + 1, k, h, i, h1, h2 => by
    rw [allD, Bool.and_eq_true] at h
    by_cases e : i = k
    · rw [e]; exact h.1
    · exact allD_at h.2 i (by omega) (by omega)
theorem allD_step {p : Nat → Bool} {k n : Nat} (h : k < n) : allD p k (n - k) = (p k && allD p (k + 1) (n - (k + 1))) := by
  obtain ⟨r, hr⟩ : ∃ r, n - k = r + 1 := ⟨n - k - 1, by omega⟩
  rw [hr, allD, show n - (k + 1) = r by omega]
/-- the orders of S, and of T, then S -/
def ok6 (s t : List Int) (i : Nat) : Bool := decide (pt s (pt s i) = i) && decide (pt s (pt t (pt s (pt t (pt s (pt t i))))) = i)
/-- a point joins the points met -/
def addP (ps : List Int) (j : Int) : List Int := if j ∈ ps then ps else ps ++ [j]
def metF (s t : List Int) : Nat → Nat → List Int → List Int
  | 0, _, ps => ps
  | f + 1, k, ps => if k < ps.length then metF s t f (k + 1) (addP (addP ps (s.getD (pt ps k) 0)) (t.getD (pt ps k) 0)) else ps
/-- the points met from a point -/
def met (s t : List Int) (i n : Nat) : List Int := metF s t (n + 1) 0 [(i : Int)]
def isA (s t : List Int) : Bool :=
  decide (1 ≤ s.length) && decide (s.length ≤ 72) && ord s s.length && ord t s.length && allD (ok6 s t) 0 s.length && decide ((met s t 0 s.length).length = s.length)
/-- different numbers below n -/
def PS (n : Nat) (ps : List Int) : Prop := ps.Nodup ∧ ∀ x ∈ ps, 0 ≤ x ∧ x < (n : Int)
theorem PS.le {n : Nat} {ps : List Int} (h : PS n ps) : ps.length ≤ n := nodup_le n ps h.1 h.2
theorem PS.b {n : Nat} {ps : List Int} (h : PS n ps) : Bd ps n := fun _ hi => h.2 _ (getD_mem hi)
theorem PS.add {n : Nat} {ps : List Int} (h : PS n ps) {j : Nat} (hj : j < n) : PS n (addP ps j) := by
  unfold addP
  split
  · exact h
  · rename_i hn
    refine ⟨List.nodup_append.2 ⟨h.1, by simp, fun a ha b hb => ?_⟩, fun x hx => ?_⟩
    · have := List.mem_singleton.1 hb
      rintro rfl
      exact hn (this ▸ ha)
    · rcases List.mem_append.1 hx with hx | hx
      · exact h.2 x hx
      · have := List.mem_singleton.1 hx
        omega
theorem PS.one {n i : Nat} (h : i < n) : PS n [(i : Int)] := ⟨by simp, fun x hx => by have := List.mem_singleton.1 hx; omega⟩
theorem addP_len (ps : List Int) (j : Int) : ps.length ≤ (addP ps j).length := by
  unfold addP
  split <;> simp
theorem metF_ps {s t : List Int} {n : Nat} (hs : Pm s n) (ht : Pm t n) : ∀ (f k : Nat) (ps : List Int), PS n ps → PS n (metF s t f k ps)
  | 0, _, _, h => h
  | f + 1, k, ps, h => by
    rw [metF]
    split
    · rename_i hk
      obtain ⟨e1, e2⟩ := h.b.at hk
      obtain ⟨a1, a2⟩ := hs.at e2
      obtain ⟨b1, b2⟩ := ht.at e2
      refine metF_ps hs ht f _ _ ?_
      rw [a1, b1]
      exact (h.add a2).add b2
    · exact h
theorem met_ps {s t : List Int} {n i : Nat} (hs : Pm s n) (ht : Pm t n) (hi : i < n) : PS n (met s t i n) := metF_ps hs ht _ _ _ (.one hi)
/-- what holds of an action -/
structure IsA (s t : List Int) (n : Nat) : Prop where
  n1 : 1 ≤ n
  n72 : n ≤ 72
  pS : Pm s n
  pT : Pm t n
  two : ∀ i, i < n → pt s (pt s i) = i
  six : ∀ i, i < n → pt s (pt t (pt s (pt t (pt s (pt t i))))) = i
  all : (met s t 0 n).length = n
theorem isA_is {s t : List Int} (h : isA s t = true) : IsA s t s.length := by
  simp only [isA, Bool.and_eq_true, decide_eq_true_eq] at h
  obtain ⟨⟨⟨⟨⟨h1, h2⟩, h3⟩, h4⟩, h5⟩, h6⟩ := h
  have h7 := allD_at h5
  refine ⟨h1, h2, ord_is h3, ord_is h4, fun i hi => ?_, fun i hi => ?_, h6⟩
  · have := h7 i (by omega) (by omega)
    rw [ok6, Bool.and_eq_true] at this
    exact of_decide_eq_true this.1
  · have := h7 i (by omega) (by omega)
    rw [ok6, Bool.and_eq_true] at this
    exact of_decide_eq_true this.2
/-- a list led along another, renumbered -/
def renF (p s : List Int) : Nat → List Int
  | 0 => List.replicate p.length 0
  | k + 1 => (renF p s k).set (pt p k) (p.getD (pt s k) 0)
def ren (p s : List Int) : List Int := renF p s p.length
theorem renF_len (p s : List Int) : ∀ k, (renF p s k).length = p.length
  | 0 => by simp [renF]
  | k + 1 => by rw [renF, List.length_set, renF_len p s k]
theorem ren_len (p s : List Int) : (ren p s).length = p.length := renF_len p s _
/-- the numbers of the points met, in their order -/
def numF (ms : List Int) (n : Nat) : Nat → List Int
  | 0 => List.replicate n 0
  | k + 1 => (numF ms n k).set (pt ms k) (k : Int)
def num (ms : List Int) (n : Nat) : List Int := numF ms n ms.length
theorem numF_len (ms : List Int) (n : Nat) : ∀ k, (numF ms n k).length = n
  | 0 => by simp [numF]
  | k + 1 => by rw [numF, List.length_set, numF_len ms n k]
theorem num_len (ms : List Int) (n : Nat) : (num ms n).length = n := numF_len ms n _
theorem getI_set {m : List Int} {i j : Nat} {x : Int} (hj : j < m.length) : (m.set j x).getD i 0 = if i = j then x else m.getD i 0 := by
  by_cases e : i = j
  · subst e; simp [List.getD, hj]
  · rw [if_neg e]; simp [List.getD, List.getElem?_set_ne (Ne.symm e)]
theorem numF_bd {ms : List Int} {n : Nat} (hm : PS n ms) (h1 : 1 ≤ n) : ∀ k, k ≤ ms.length → Bd (numF ms n k) n
  | 0, _ => fun i hi => by
    simp only [numF, List.length_replicate] at hi
    simp [numF, List.getD, hi]
    omega
  | k + 1, hk => fun i hi => by
    have := hm.le
    rw [numF_len] at hi
    rw [numF, getI_set (by rw [numF_len]; exact (hm.b.at (by omega)).2)]
    split
    · omega
    · exact numF_bd hm h1 k (by omega) i (by rw [numF_len]; exact hi)
theorem num_bd {ms : List Int} {n : Nat} (hm : PS n ms) (h1 : 1 ≤ n) : Bd (num ms n) n := numF_bd hm h1 _ (Nat.le_refl _)
/-- the form from a point -/
def frm (s t : List Int) (i n : Nat) (x : List Int) : List Int := ren (num (met s t i n) n) x
theorem frm_len (s t : List Int) (i n : Nat) (x : List Int) : (frm s t i n x).length = n := by rw [frm, ren_len, num_len]
theorem renF_bd {p s : List Int} {n : Nat} (hp : Bd p n) (hl : p.length = n) (hs : Bd s n) (hsl : s.length = n) (h1 : 1 ≤ n) : ∀ k, k ≤ n → Bd (renF p s k) n
  | 0, _ => fun i hi => by
    simp only [renF, List.length_replicate] at hi
    simp [renF, List.getD, hi]
    omega
  | k + 1, hk => fun i hi => by
    rw [renF_len] at hi
    rw [renF, getI_set (by rw [renF_len, hl]; exact (hp.at (by omega)).2)]
    split
    · have := (hs.at (i := k) (by omega)).2
      exact hp _ (by omega)
    · exact renF_bd hp hl hs hsl h1 k (by omega) i (by rw [renF_len]; exact hi)
theorem ren_bd {p s : List Int} {n : Nat} (hp : Bd p n) (hl : p.length = n) (hs : Bd s n) (hsl : s.length = n) (h1 : 1 ≤ n) : Bd (ren p s) n := renF_bd hp hl hs hsl h1 _ (by omega)
end Go.Proofs.YtdcomnnpnhinfaaDoor
/- Actions: two lists in blocks of their own; the laws' helpers over them. -/
namespace Go.Proofs.YtdcomnnpnhinfaaDoor
open Go.ChangeShapes Go.WideShapes Go.ChangeAt Go.RowKit

/-- block g reads as the list xs -/
def Rc (w : World) (g : Nat) (xs : List Int) : Prop := g < w.heap.size ∧ ∀ k, k < xs.length → w.cell? ⟨g, k, none⟩ = some (.int .i64 (xs.getD k 0))
theorem Rc.below {w w' : World} {g : Nat} {xs : List Int} (h : Rc w g xs) (hb : Below w.heap.size w w') : Rc w' g xs :=
  ⟨Nat.lt_of_lt_of_le h.1 hb.size, fun k hk => (hb.cell (p := ⟨g, k, none⟩) h.1).trans (h.2 k hk)⟩
theorem Rc.low {w w' : World} {g L : Nat} {xs : List Int} (h : Rc w g xs) (hb : Below L w w') (hg : g < L) : Rc w' g xs :=
  ⟨Nat.lt_of_lt_of_le h.1 hb.size, fun k hk => (hb.cell (p := ⟨g, k, none⟩) hg).trans (h.2 k hk)⟩
theorem Rc.alloc {w : World} {g : Nat} {xs : List Int} (h : Rc w g xs) (o : Obj) : Rc (w.alloc o) g xs := h.below (own_alloc (own_refl w) o)
theorem Rc.drew {w : World} {g : Nat} {xs : List Int} (h : Rc w g xs) : Rc w.drew g xs := h
theorem Rc.drewN {w : World} {g : Nat} {xs : List Int} (h : Rc w g xs) (n : Nat) : Rc (w.drewN n) g xs := h
/-- the value v reads as the list xs -/
def Rl (w : World) (v : Value) (xs : List Int) : Prop := ∃ ad cap, v = .slice ad xs.length cap ∧ (0 < xs.length → ∃ g, ad = some ⟨g, 0, none⟩ ∧ Rc w g xs)
theorem Rl.below {w w' : World} {v : Value} {xs : List Int} (h : Rl w v xs) (hb : Below w.heap.size w w') : Rl w' v xs := by
  obtain ⟨ad, cap, e, h⟩ := h
  exact ⟨ad, cap, e, fun h0 => by obtain ⟨g, e, hr⟩ := h h0; exact ⟨g, e, hr.below hb⟩⟩
theorem Rl.alloc {w : World} {v : Value} {xs : List Int} (h : Rl w v xs) (o : Obj) : Rl (w.alloc o) v xs := h.below (own_alloc (own_refl w) o)
theorem Rl.drew {w : World} {v : Value} {xs : List Int} (h : Rl w v xs) : Rl w.drew v xs := h
theorem Gr.rl {w : World} {L : Nat} {v : Value} {xs : List Int} (h : Gr w L v xs) : Rl w v xs := by
  obtain ⟨ad, cap, rfl⟩ := h.shape
  refine ⟨ad, cap, rfl, fun h0 => ?_⟩
  obtain ⟨g, e, _, hg, hc⟩ := h.cellsZ h0
  exact ⟨g, e, hg, fun k hk => (hc k hk).1⟩
theorem Gr.weakL {w : World} {L L' : Nat} {v : Value} {xs : List Int} (h : Gr w L v xs) (hL : L' ≤ L) : Gr w L' v xs := by
  obtain ⟨h1, h2⟩ := h
  refine ⟨h1, ?_⟩
  rcases h2 with h2 | ⟨g, cap, cur, e, hg, h3⟩
  · exact .inl h2
  · exact .inr ⟨g, cap, cur, e, Nat.le_trans hL hg, h3⟩
/-- the value u is an action's two lists, each in a block of its own -/
def AcR (w : World) (L : Nat) (u : Value) (s t : List Int) : Prop :=
  ∃ a b, u = .agg #[a, b] ∧ Gr w L a s ∧ Gr w L b t ∧ ∀ g, a.ownBlock = some g → b.ownBlock ≠ some g
theorem AcR.own {w w' : World} {L : Nat} {u : Value} {s t : List Int} (h : AcR w L u s t) (hb : Below w.heap.size w w') : AcR w' L u s t := by
  obtain ⟨a, b, e, h1, h2, h3⟩ := h
  exact ⟨a, b, e, h1.own hb, h2.own hb, h3⟩
theorem AcR.weak {w : World} {L L' : Nat} {u : Value} {s t : List Int} (h : AcR w L u s t) (hL : L' ≤ L) : AcR w L' u s t := by
  obtain ⟨a, b, e, h1, h2, h3⟩ := h
  exact ⟨a, b, e, h1.weakL hL, h2.weakL hL, h3⟩
/-- the value u reads as an action's two lists -/
def Ac (w : World) (u : Value) (s t : List Int) : Prop := ∃ a b, u = .agg #[a, b] ∧ Rl w a s ∧ Rl w b t
theorem AcR.ac {w : World} {L : Nat} {u : Value} {s t : List Int} (h : AcR w L u s t) : Ac w u s t := by
  obtain ⟨a, b, e, h1, h2, _⟩ := h
  exact ⟨a, b, e, h1.rl, h2.rl⟩
theorem Ac.below {w w' : World} {u : Value} {s t : List Int} (h : Ac w u s t) (hb : Below w.heap.size w w') : Ac w' u s t := by
  obtain ⟨a, b, e, h1, h2⟩ := h
  exact ⟨a, b, e, h1.below hb, h2.below hb⟩
theorem AcR.shape {w : World} {L : Nat} {u : Value} {s t : List Int} (h : AcR w L u s t) : ∃ a c b d, u = .agg #[.slice a s.length c, .slice b t.length d] := by
  obtain ⟨a, b, rfl, h1, h2, _⟩ := h
  obtain ⟨_, _, rfl⟩ := h1.shape
  obtain ⟨_, _, rfl⟩ := h2.shape
  exact ⟨_, _, _, _, rfl⟩
theorem AcR.drew {w : World} {L : Nat} {u : Value} {s t : List Int} (h : AcR w L u s t) : AcR w.drew L u s t := h
theorem AcR.nil (w : World) (L : Nat) : AcR w L (.agg #[.slice none 0 0, .slice none 0 0]) [] [] :=
  ⟨_, _, rfl, Gr.nil _ _, Gr.nil _ _, fun g h => by simp [Value.ownBlock] at h⟩

/-- the first k numbers, then zeros -/
def prt (xs : List Int) (k : Nat) : List Int := xs.take k ++ List.replicate (xs.length - k) 0
theorem prt_len (xs : List Int) (k : Nat) (h : k ≤ xs.length) : (prt xs k).length = xs.length := by simp [prt]; omega
theorem prt_set (xs : List Int) (k : Nat) (hk : k < xs.length) (x : Int) (hx : xs.getD k 0 = x) : (prt xs k).set k x = prt xs (k + 1) := by
  subst hx
  apply List.ext_getElem
  · simp [prt]; omega
  · intro i h1 h2
    simp only [prt, List.getElem_set, List.getElem_append, List.getElem_take, List.length_take, List.getElem_replicate]
    by_cases e : k = i
    · subst e
      simp [hk, List.getD]
      omega
    · rw [if_neg e]
      by_cases h3 : i < k
      · rw [dif_pos (by omega), dif_pos (by omega)]
      · rw [dif_neg (by omega), dif_neg (by omega)]
theorem Gr.lit0 {w : World} {L g : Nat} (hg : w.heap.size = g) (hL : L ≤ g) (n : Nat) (hn : n ≤ 1048576) :
    Gr (w.alloc (.cells (Array.replicate n (.int .i64 0)) 2)) L (.slice (some ⟨g, 0, none⟩) n n) (List.replicate n 0) := by
  subst hg
  have h := World.ownsRow_lit (e := 2) (size := 1) (base := L) w (Array.replicate n (.int .i64 0)) n hL (by unfold maxLen; omega) (by simp)
  unfold Gr
  rw [List.length_replicate]
  simpa using h
theorem mk64 (n : Nat) (hn : n ≤ 1048576) (w : World) : (Instr.makeSlice 22 (.int .i64 n) (.int .i64 n)).run Tryd.prog w =
    .ok (.slice (some ⟨w.heap.size, 0, none⟩) n n) (w.alloc (.cells (Array.replicate n (.int .i64 0)) 2)) := by
  have h := made64T n hn w
  simpa using h
set_option maxHeartbeats 1000000 in
theorem toG_any (a : Option Addr) (cap : Nat) (xs : List Int) (hn : xs.length ≤ 1048576) (w : World) (hr : Rs w a xs) :
    Calls Tryd.prog 17 #[.slice a xs.length cap] w fun e w' => ∃ v, e = .returned v ∧ Gr w' w.heap.size v xs ∧ v.ownBlock = some w.heap.size ∧ Below w.heap.size w w' := by
  rcases Nat.eq_zero_or_pos xs.length with h0 | h0
  · obtain rfl : xs = [] := List.length_eq_zero_iff.1 h0
    clear hr hn h0
    have hmk : ∀ w : World, (Instr.makeSlice 22 (.int .i64 0) (.int .i64 0)).run Tryd.prog w = .ok (.slice (some ⟨w.heap.size, 0, none⟩) 0 0) (w.alloc (.cells #[] 2)) := fun w => by simpa using made64T 0 (by omega) w
    have HZ : Gr (w.alloc (.cells #[] 2)) w.heap.size (.slice (some ⟨w.heap.size, 0, none⟩) 0 0) [] := World.ownsRow_lit w #[] 0 (Nat.le_refl _) (by unfold maxLen; omega) rfl
    have T0 := own_alloc (own_refl w) (.cells #[] 2)
    go_enter Tryd.func17, Tryd.ntmps17
    go_wp2
    generalize w.alloc (.cells #[] 2) = w1 at *
    go_loopw [4] (fun i wr => i = (.int .i64 0) ∧ wr = w1) (fun _ _ => 0)
    case atStart => exact ⟨rfl, rfl⟩
    case round =>
      obtain ⟨rfl, rfl⟩ := hrel
      go_wp2
      go_ret
      exact ⟨_, rfl, HZ, rfl, T0⟩
  · obtain ⟨b, off, rfl, hb, hc⟩ := hr h0
    have HC := Lib.hid hc
    clear hc
    obtain ⟨n, hN⟩ : ∃ n, xs.length = n := ⟨_, rfl⟩
    have HN := Lib.hid hN
    have hmk := mk64 n (by omega)
    have HZ : Gr (w.alloc (.cells (Array.replicate n (.int .i64 0)) 2)) w.heap.size (.slice (some ⟨w.heap.size, 0, none⟩) n n) (prt xs 0) := by
      have := Gr.lit0 (w := w) (L := w.heap.size) rfl (Nat.le_refl _) n (by omega)
      simpa [prt, hN] using this
    have T0 := own_alloc (own_refl w) (.cells (Array.replicate n (.int .i64 0)) 2)
    rw [hN] at hn h0 ⊢
    clear hN
    go_enter Tryd.func17, Tryd.ntmps17
    go_wp2
    generalize w.alloc (.cells (Array.replicate n (.int .i64 0)) 2) = w1 at *
    go_loopw [4] (fun i wr => ∃ k : Nat, k ≤ n ∧ i = (.int .i64 k) ∧ Below w.heap.size w wr ∧ Hid (Gr wr w.heap.size (.slice (some ⟨w.heap.size, 0, none⟩) n n) (prt xs k))) (fun i _ => n - (intOf i).toNat)
    case atStart => exact ⟨0, Nat.zero_le _, rfl, T0, Lib.hid HZ⟩
    case round =>
      obtain ⟨k, hk, rfl, T, HB⟩ := hrel
      by_cases hlt : k < n
      · obtain ⟨x, hx⟩ : ∃ x, xs.getD k 0 = x := ⟨_, rfl⟩
        have hkx : k < xs.length := by rw [HN.out]; exact hlt
        have c1 : wr.cell? ⟨b, off + k, none⟩ = some (.int .i64 x) := by rw [T.cell (p := ⟨b, off + k, none⟩) hb, ← hx]; exact HC.out k hkx
        have hl : (prt xs k).length = n := by rw [prt_len _ _ (by omega)]; exact HN.out
        obtain ⟨g', e, _, _, hcl⟩ := HB.out.cellsZ (by omega)
        injection e with e; injection e with e; subst e
        obtain ⟨c2, f2⟩ := hcl k hlt
        have HS : Hid (Gr (wr.setCell ⟨w.heap.size, k, none⟩ (.int .i64 x)) w.heap.size (.slice (some ⟨w.heap.size, 0, none⟩) n n) (prt xs (k + 1))) := Lib.hid (by
          have h2 := (show Gr wr w.heap.size (.slice (some ⟨w.heap.size, 0, none⟩) (prt xs k).length n) (prt xs k) by rw [hl]; exact HB.out).putZ (k := k) (y := x) (by rw [hl]; exact hlt)
          rw [hl, prt_set xs k hkx x hx] at h2
          exact h2)
        clear hx hcl hl hkx
        go_wp2
        go_roundw
        case rel => exact ⟨k + 1, by omega, by go_num, own_setCell T (Nat.le_refl _) _, HS⟩
        case measure => simp [intOf]; omega
      · have HB2 : Hid (Gr wr w.heap.size (.slice (some ⟨w.heap.size, 0, none⟩) n n) xs) := Lib.hid (by
          have e : prt xs k = xs := by
            have : k = xs.length := by rw [HN.out]; omega
            subst this
            simp [prt]
          rw [← e]; exact HB.out)
        go_wp2
        go_ret
        exact ⟨_, rfl, HB2.out, rfl, T⟩

set_option maxHeartbeats 1000000 in
theorem eqA_same (u v : Value) (s t : List Int) (L L' : Nat) (w : World) (hs : s.length ≤ 4294967296) (ht : t.length ≤ 4294967296) (hu : AcR w L u s t) (hv : AcR w L' v s t) :
    Calls Tryd.prog 10 #[u, v] w fun e w' => e = .returned (.bool true) ∧ Below w.heap.size w w' := by
  obtain ⟨a, b, rfl, ha, hb, _⟩ := hu
  obtain ⟨c, d, rfl, hc, hd, _⟩ := hv
  have HA := Lib.hid (fun w' (h : Below w.heap.size w w') => eqS_same a c s _ _ _ _ w' hs (ha.own h).sl (hc.own h).sl)
  have HB := Lib.hid (fun w' (h : Below w.heap.size w w') => eqS_same b d t _ _ _ _ w' ht (hb.own h).sl (hd.own h).sl)
  obtain ⟨a1, k1, rfl⟩ := ha.shape
  obtain ⟨a2, k2, rfl⟩ := hb.shape
  obtain ⟨a3, k3, rfl⟩ := hc.shape
  obtain ⟨a4, k4, rfl⟩ := hd.shape
  clear ha hb hc hd hs ht
  generalize s.length = n at *
  generalize t.length = m at *
  go_enter Tryd.func10, Tryd.ntmps10
  go_wp2_with fail
  refine (HA.out _ (by repeat (first | with_reducible exact own_refl _ | with_reducible assumption | with_reducible apply own_alloc | with_reducible apply own_drewN | with_reducible apply own_drew | ((with_reducible refine own_setCell ?_ ?_ _); rotate_left; focus (first | (simp; done) | (simp; omega))) | (with_reducible (refine own_trans ?_ (by assumption)))))).mono ?_
  rintro e w2 ⟨rfl, hb2⟩
  have T2 : Below w.heap.size w w2 := by repeat (first | with_reducible exact own_refl _ | with_reducible assumption | with_reducible apply own_alloc | with_reducible apply own_drewN | with_reducible apply own_drew | ((with_reducible refine own_setCell ?_ ?_ _); rotate_left; focus (first | (simp; done) | (simp; omega))) | (with_reducible (refine own_trans ?_ (by assumption))))
  have Bw2_0 : Box w2 (w.heap.size) [.slice a1 n k1, .slice a2 m k2] := by refine Box.below ?_ hb2; repeat (first | with_reducible assumption | with_reducible exact Box.new _ _ _ | (with_reducible refine Box.newAt ?_ _ _; (simp; done)) | with_reducible apply Box.alloc | with_reducible apply Box.drewN | with_reducible apply Box.drew)
  obtain ⟨_, _, _, _, _⟩ := Bw2_0.two
  have Bw2_1 : Box w2 (w.heap.size + 1) [.slice a3 n k3, .slice a4 m k4] := by refine Box.below ?_ hb2; repeat (first | with_reducible assumption | with_reducible exact Box.new _ _ _ | (with_reducible refine Box.newAt ?_ _ _; (simp; done)) | with_reducible apply Box.alloc | with_reducible apply Box.drewN | with_reducible apply Box.drew)
  obtain ⟨_, _, _, _, _⟩ := Bw2_1.two
  go_wp2_with fail
  refine (HB.out _ (by repeat (first | with_reducible exact own_refl _ | with_reducible assumption | with_reducible apply own_alloc | with_reducible apply own_drewN | with_reducible apply own_drew | ((with_reducible refine own_setCell ?_ ?_ _); rotate_left; focus (first | (simp; done) | (simp; omega))) | (with_reducible (refine own_trans ?_ (by assumption)))))).mono ?_
  rintro e w4 ⟨rfl, hb4⟩
  go_wp2
  go_ret
  exact ⟨rfl, own_trans T2 hb4⟩
end Go.Proofs.YtdcomnnpnhinfaaDoor
/- slices.Contains at integers, and slices.IndexFunc over rows with the closure of CuspOfFraction (its first part is XAcP's: never import both). -/
namespace Go.Proofs.YtdcomnnpnhinfaaDoor
open Go.ChangeShapes Go.WideShapes Go.ChangeAt Go.RowKit

theorem getD_memC {l : List Int} {k : Nat} (h : k < l.length) : l.getD k 0 ∈ l := by
  simp only [List.getD, List.getElem?_eq_getElem h, Option.getD_some]
  exact List.getElem_mem h
theorem retIC {a b : Nat} (h : a = b) : Ending.returned (.int .i64 ((a : Int))) = Ending.returned (.int .i64 ((b : Int))) := by rw [h]
theorem ret_boolC {a b : Bool} (h : a = b) : Ending.returned (.bool a) = Ending.returned (.bool b) := by rw [h]
set_option maxHeartbeats 1000000 in
theorem indexAny_is (v : Value) (xs : List Int) (n : Nat) (hn : n ≤ 1000000) (hx : xs.length = n) (y : Int) (w : World) (h : Rl w v xs) :
    Calls Tryd.prog 76 #[v, (.int .i64 y)] w fun e w' => ∃ r : Int, e = .returned (.int .i64 r) ∧ (decide (0 ≤ r) = decide (y ∈ xs)) ∧ -1 ≤ r ∧ r ≤ 1000000 ∧ Below w.heap.size w w' := by
  obtain ⟨ad, cap, rfl, hr⟩ := h
  have HR := Lib.hid hr
  have HX := Lib.hid hx
  rw [hx]
  clear hr hx
  go_enter Tryd.func76, Tryd.ntmps76
  go_wp2
  go_loopw [8] (fun i wr => ∃ k : Nat, k ≤ n ∧ i = (.int .i64 ((k : Int))) ∧ Hid (∀ j, j < k → xs.getD j 0 ≠ y) ∧ Below w.heap.size w wr) (fun i _ => n - (intOf i).toNat)
  case atStart => exact ⟨0, Nat.zero_le _, rfl, Lib.hid (fun j h => absurd h (Nat.not_lt_zero _)), own_refl _⟩
  case round =>
    obtain ⟨k, hk, rfl, HJ, T⟩ := hrel
    by_cases hkn : k < n
    · have hkx : k < xs.length := by rw [HX.out]; exact hkn
      obtain ⟨g, rfl, hg⟩ := HR.out (by omega)
      have c1 := (hg.below T).2 k hkx
      by_cases e : y = xs.getD k 0
      · have HM : Hid (decide (0 ≤ (k : Int)) = decide (y ∈ xs)) := Lib.hid (by
          rw [decide_eq_true (by omega), decide_eq_true (by rw [e]; exact getD_memC hkx)])
        rw [← e] at c1
        clear e hg hkx
        go_wp2
        go_ret
        exact ⟨(k : Int), rfl, HM.out, by omega, by omega, T⟩
      · have HJ2 : Hid (∀ j, j < k + 1 → xs.getD j 0 ≠ y) := Lib.hid (fun j hj => by
          by_cases h2 : j < k
          · exact HJ.out j h2
          · have : j = k := by omega
            rw [this]
            exact fun h3 => e h3.symm)
        obtain ⟨z, hz⟩ : ∃ z, xs.getD k 0 = z := ⟨_, rfl⟩
        rw [hz] at c1 e
        clear hz hg hkx
        go_wp2
        go_roundw
        case rel => exact ⟨k + 1, by omega, by go_num, HJ2, T⟩
        case measure => simp [intOf]; omega
    · have HM : Hid (decide (0 ≤ (-1 : Int)) = decide (y ∈ xs)) := Lib.hid (by
        rw [decide_eq_false (by omega), decide_eq_false]
        intro hm
        obtain ⟨j, hj, e⟩ := List.getElem_of_mem hm
        exact HJ.out j (by have := HX.out; omega) (by simp [List.getD, hj, e]))
      go_wp2
      go_ret
      exact ⟨-1, rfl, HM.out, by omega, by omega, T⟩
theorem contains_is (v : Value) (xs : List Int) (n : Nat) (hn : n ≤ 1000000) (hx : xs.length = n) (y : Int) (b : Bool) (hb : decide (y ∈ xs) = b) (w : World) (h : Rl w v xs) :
    Calls Tryd.prog 46 #[v, (.int .i64 y)] w fun e w' => e = .returned (.bool b) ∧ Below w.heap.size w w' := by
  have HI := Lib.hid (indexAny_is v xs n hn hx y w h)
  obtain ⟨ad, cap, rfl, _⟩ := h
  have HB := Lib.hid hb
  rw [hx] at *
  clear hx hb
  go_enter Tryd.func46, Tryd.ntmps46
  go_wp2_with fail
  refine HI.out.mono ?_
  rintro e w2 ⟨r, rfl, hr, r1, r2, hb2⟩
  have HR := Lib.hid (hr.trans HB.out)
  clear hr
  go_wp2
  go_ret
  exact ⟨ret_boolC HR.out, hb2⟩

set_option maxHeartbeats 1000000 in
theorem cuspClo_is (v : Value) (xs : List Int) (n : Nat) (hn : n ≤ 1000000) (hx : xs.length = n) (y : Int) (b : Bool) (hb : decide (y ∈ xs) = b) (g : Nat) (w : World) (h : Rl w v xs) (hB : Box w g [(.int .i64 y)]) :
    Calls Tryd.prog 45 #[v, .pointer (some ⟨g, 0, none⟩)] w fun e w' => e = .returned (.bool b) ∧ Below w.heap.size w w' := by
  have HC := Lib.hid (contains_is v xs n hn hx y b hb w h)
  obtain ⟨-, c0, -⟩ := hB.one
  clear hb h hx
  go_enter Tryd.func45, Tryd.ntmps45
  go_wp2_with fail
  refine HC.out.mono ?_
  rintro e w2 ⟨rfl, hb2⟩
  go_wp2
  go_ret
  exact ⟨rfl, hb2⟩
set_option maxHeartbeats 2000000 in
theorem cuspIdx_is (v : Value) (css : List (List Int)) (m K : Nat) (hm : css.length = m) (hmb : m ≤ 1000000) (hlen : ∀ c, c < m → (css.getD c []).length ≤ 1000000) (hK : K < m) (y : Int) (hin : y ∈ css.getD K []) (hno : ∀ i, i < K → y ∉ css.getD i []) (L g : Nat) (w : World) (hS : GrSS w L v css) (hB : Box w g [(.int .i64 y)]) :
    Calls Tryd.prog 44 #[v, .func (.func 45) #[] #[.pointer (some ⟨g, 0, none⟩)]] w fun e w' => e = .returned (.int .i64 ((K : Int))) ∧ Below w.heap.size w w' := by
  obtain ⟨ad, cap, hv⟩ := hS.shape
  subst hv
  rw [hm] at hS ⊢
  have HG := Lib.hid hS
  have HL := Lib.hid hlen
  have HI := Lib.hid hin
  have HN := Lib.hid hno
  have HM := Lib.hid hm
  clear hS hlen hin hno hm
  go_enter Tryd.func44, Tryd.ntmps44
  go_wp2
  go_loopw [8] (fun i wr => ∃ k : Nat, k ≤ K ∧ i = (.int .i64 ((k : Int))) ∧ Below w.heap.size w wr) (fun i _ => m - (intOf i).toNat)
  case atStart => exact ⟨0, Nat.zero_le _, rfl, own_refl _⟩
  case round =>
    obtain ⟨k, hk, rfl, T⟩ := hrel
    have hkm : k < m := by omega
    obtain ⟨vs, hV⟩ := HG.out.own T
    have hkl : k < css.length := by rw [HM.out]; exact hkm
    rw [← HM.out] at hV
    obtain ⟨gl, rfl, _, _, hcl⟩ := hV.rowAt rfl (by omega)
    have c0 := hcl k hkl
    have hrow := hV.row hkl
    have B := hB.below T
    have HR := Lib.hid hrow.rl
    obtain ⟨ad2, cap2, e2⟩ := hrow.shape
    rw [e2] at c0 HR
    clear hcl hrow hV e2 hkl
    by_cases hy : y ∈ css.getD k []
    · have HKK : Hid (k = K) := Lib.hid ((Nat.lt_or_eq_of_le hk).elim (fun h => absurd hy (HN.out k h)) id)
      have HC := Lib.hid (cuspClo_is _ _ _ (HL.out k hkm) rfl y true (decide_eq_true hy) g wr HR.out B)
      generalize (css.getD k []).length = n at *
      clear hy
      go_wp2_with fail
      refine HC.out.mono ?_
      rintro e w2 ⟨rfl, hb2⟩
      go_wp2
      go_ret
      exact ⟨retIC HKK.out, own_trans T hb2⟩
    · have hkK : k < K := by
        rcases Nat.lt_or_eq_of_le hk with h | h
        · exact h
        · exact absurd (h ▸ HI.out) hy
      have HC := Lib.hid (cuspClo_is _ _ _ (HL.out k hkm) rfl y false (decide_eq_false hy) g wr HR.out B)
      generalize (css.getD k []).length = n at *
      clear hy
      go_wp2_with fail
      refine HC.out.mono ?_
      rintro e w2 ⟨rfl, hb2⟩
      go_wp2
      go_roundw
      case rel => exact ⟨k + 1, by omega, by go_num, own_trans T hb2⟩
      case measure => simp [intOf]; omega
end Go.Proofs.YtdcomnnpnhinfaaDoor
