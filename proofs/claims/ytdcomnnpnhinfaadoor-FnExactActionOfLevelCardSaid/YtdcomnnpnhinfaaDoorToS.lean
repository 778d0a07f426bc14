/- A slice of integers among the arguments, opened; and the row's end where an argument lies in memory. -/
import Derived.Test.YtdcomnnpnhinfaaDoorBase
import Derived.ChangeSlices
import Derived.Carry
import Derived.Test.YtdcomnnpnhinfaaDoorSl
import Derived.Test.YtdcomnnpnhinfaaDoorGr
namespace Go.Proofs.YtdcomnnpnhinfaaDoor
open Go.ChangeShapes Go.WideShapes Go.ChangeAt Go.RowKit

/-- The address a, where there is something to read, leads to the integers xs, in blocks that are there. -/
def Rs (w : World) (a : Option Addr) (xs : List Int) : Prop := 0 < xs.length → ∃ b off, a = some ⟨b, off, none⟩ ∧ b < w.heap.size ∧ ∀ k, k < xs.length → w.cell? ⟨b, off + k, none⟩ = some (.int .i64 (xs.getD k 0))
theorem Rs.below {w w' : World} {a : Option Addr} {xs : List Int} (h : Rs w a xs) (hb : Below w.heap.size w w') : Rs w' a xs := by
  intro h0
  obtain ⟨b, off, rfl, hlt, hc⟩ := h h0
  exact ⟨b, off, rfl, Nat.lt_of_lt_of_le hlt hb.size, fun k hk => (hb.cell (p := ⟨b, off + k, none⟩) hlt).trans (hc k hk)⟩

section
variable {H : Type} {enc : TypeId × Value → H} {W : World} {b0 : Nat}
theorem cells_i64' : Tryd.prog.cellsOf 2 = 1 := by kernel_rfl
set_option maxRecDepth 100000 in
theorem openL {r : Reach} {v : Value} {d : DataW H} {p : List MemPlace} (hv : Value.okWide Tryd.prog W r b0 22 v)
    (h : DataW.Trod enc Tryd.prog W 0 (fun _ => true) true 22 v d p) (hlt : ∀ x ∈ p, x.block < W.heap.size) :
    ∃ (xs : List Int) (a : Option Addr) (cap : Nat), v = .slice a xs.length cap ∧ Rs W a xs ∧ (∀ x ∈ xs, I64 x) ∧ xs.length ≤ 9223372036854775807 := by
  obtain ⟨a0, len, cap, rfl⟩ := okWide_slice Tryd.underlying22 hv
  obtain ⟨fuel, hf⟩ := h
  rcases open_ints Tryd.underlying22 Tryd.underlying2 cells_i64' hf with ⟨hcs, hx⟩ | ⟨a, len', cap', zs, hcs, _, hl, hm, hz, hx, hcell, hwz⟩
  · simp [Value.cells] at hcs
    obtain ⟨rfl, rfl, rfl⟩ := hcs
    exact ⟨[], none, 0, rfl, fun h => absurd h (by simp), fun x hx => by simp at hx, by simp⟩
  · simp [Value.cells] at hcs
    obtain ⟨rfl, rfl, rfl⟩ := hcs
    simp only [Prod.mk.injEq] at hx
    obtain ⟨rfl, rfl⟩ := hx
    simp only [if_true] at hz
    have hlen : (zs.take len).length = len := by rw [List.length_take]; omega
    refine ⟨zs.take len, some a, cap, by rw [hlen], fun h0 => ?_, fun x hx => i64_of_wf (hwz x (List.mem_of_mem_take hx)), ?_⟩
    · obtain ⟨b, off, spot⟩ := a
      have hspot : spot = none := by simpa [Addr.add] using World.cell?_spot (hcell 0 (by omega))
      subst hspot
      refine ⟨b, off, rfl, hlt (.cell b off) (MemPlace.mem_row.2 ⟨0, by omega, by simp⟩), fun k hk => ?_⟩
      have := hcell k (by omega)
      rw [add_plain] at this
      rw [this, List.getD, List.getD, List.getElem?_take_of_lt (by omega)]
    · have : cap ≤ 9223372036854775807 := hm
      omega
end

section
variable {H : Type} {enc : TypeId × Value → H} {P : Program}
theorem post_one {f : Func} {s : ChangeSpec} {apart fresh handsOn : Bool} {W W' : World} {args : Array Value} {v : Value} {ds gs : List (DataW H)} {before pa pv : List MemPlace}
    (hW : DataW.Whole enc P f.params.toList s.vars apart W args.toList ds gs before)
    (hres : ∀ (b : Nat) (sp : Nat → Bool) (hd : Bool), DataW.TrodAll enc P W' b sp hd f.resultTypes.toList (v.resultList f.resultTypes.size) (s.fn H (ds ++ gs)).results [])
    (hargs : DataW.TrodAll enc P W' 0 (fun b => decide (b < W.heap.size)) true f.params.toList args.toList (s.fn H (ds ++ gs)).args pa)
    (hvars : DataW.TrodVars enc P W' (fun b => decide (b < W.heap.size)) s.vars (s.fn H (ds ++ gs)).vars pv)
    (hps : before = pa ++ pv) (hb : Below W.heap.size W W') : s.post enc P f apart fresh handsOn false W args v W' := by
  refine ⟨ds, gs, before, [], pa, pv, hW, hres _ _ _, hargs, hvars, World.keptBut_mono (fun p hp => ⟨hp, ?_⟩) (hb.frame (· ∈ before)), fun h => by cases h⟩
  exact Or.inr (List.mem_append.1 (hps ▸ hp))
end
end Go.Proofs.YtdcomnnpnhinfaaDoor
/- The law's helper that copies a slice of integers. -/
namespace Go.Proofs.YtdcomnnpnhinfaaDoor
open Go.ChangeShapes Go.WideShapes Go.ChangeAt Go.RowKit

theorem made64T (n : Nat) (hn : n ≤ 1048576) (w : World) : (Instr.makeSlice 22 (.int .i64 n) (.int .i64 n)).run Tryd.prog w =
    .ok (.slice (some ⟨w.heap.size, 0, none⟩) n n) (w.alloc (.cells ((List.replicate n (0 : Int)).map (Value.int .i64)).toArray 2)) := by
  obtain ⟨i0, hi, hz0, hz1, hz2⟩ := info_parts info_i64
  have h := run_make (P := Tryd.prog) (w := w) 22 2 i0 (.int .i64 0) Tryd.underlying22 hi hz0 .i64 .i64 n n (by omega) (Int.le_refl _) (by rw [hz2]; omega) (by omega)
  rw [h, hz1]
  have e : madeCells (Value.int .i64 0).cells ((n : Int).toNat * 1) = ((List.replicate n (0 : Int)).map (Value.int .i64)).toArray := by
    apply Array.ext
    · simp [size_madeCells]
    · intro i h1 h2
      simp [madeCells, Value.cells, Nat.mod_one]
  rw [e]
  simp
theorem part_set (xs : List Int) (k : Nat) (hk : k < xs.length) (x : Int) (hx : xs.getD k 0 = x) :
    (((xs.take k ++ List.replicate (xs.length - k) 0).map (Value.int .i64)).set k (.int .i64 x)) = (xs.take (k + 1) ++ List.replicate (xs.length - (k + 1)) 0).map (Value.int .i64) := by
  subst hx
  rw [← List.map_set]
  congr 1
  apply List.ext_getElem
  · simp; omega
  · intro i h1 h2
    simp only [List.getElem_set, List.getElem_append, List.getElem_take, List.length_take, List.getElem_replicate]
    by_cases e : k = i
    · subst e
      simp [hk, List.getD]
      omega
    · rw [if_neg e]
      by_cases h3 : i < k
      · rw [dif_pos (by omega), dif_pos (by omega)]
      · rw [dif_neg (by omega), dif_neg (by omega)]

set_option maxHeartbeats 1000000 in
theorem toS_full (a : Option Addr) (cap : Nat) (xs : List Int) (hn : xs.length ≤ 1048576) (w : World) (hr : Rs w a xs) :
    Calls Tryd.prog 17 #[.slice a xs.length cap] w fun e w' => ∃ v, e = .returned v ∧ Sl w' w.heap.size w'.heap.size v xs ∧ Below w.heap.size w w' ∧ ∃ a', v = .slice a' xs.length xs.length := by
  rcases Nat.eq_zero_or_pos xs.length with h0 | h0
  · obtain rfl : xs = [] := List.length_eq_zero_iff.1 h0
    clear hr hn h0
    have hmk : ∀ w : World, (Instr.makeSlice 22 (.int .i64 0) (.int .i64 0)).run Tryd.prog w = .ok (.slice (some ⟨w.heap.size, 0, none⟩) 0 0) (w.alloc (.cells #[] 2)) := fun w => by simpa using made64T 0 (by omega) w
    go_enter Tryd.func17, Tryd.ntmps17
    go_wp2
    go_loopw [4] (fun i wr => i = (.int .i64 0) ∧ Below w.heap.size w wr ∧ w.heap.size + 1 ≤ wr.heap.size) (fun _ _ => 0)
    case atStart => exact ⟨rfl, by repeat (first | with_reducible exact own_refl _ | with_reducible assumption | with_reducible apply own_alloc | with_reducible apply own_drewN | with_reducible apply own_drew | ((with_reducible refine own_setCell ?_ ?_ _); rotate_left; focus (first | (simp; done) | (simp; omega))) | (with_reducible (refine own_trans ?_ (by assumption)))), by simp⟩
    case round =>
      obtain ⟨rfl, T, hz⟩ := hrel
      go_wp2
      go_ret
      exact ⟨_, rfl, ⟨Nat.le_refl _, _, _, rfl, fun h => absurd h (by simp)⟩, T, _, rfl⟩
  · obtain ⟨b, off, rfl, hb, hc⟩ := hr h0
    have HC := Lib.hid hc
    clear hc
    have hmk := made64T xs.length hn
    go_enter Tryd.func17, Tryd.ntmps17
    go_wp2
    go_loopw [4] (fun i wr => ∃ k : Nat, k ≤ xs.length ∧ i = (.int .i64 k) ∧ Below w.heap.size w wr ∧ Box wr w.heap.size ((xs.take k ++ List.replicate (xs.length - k) 0).map (Value.int .i64))) (fun i _ => xs.length - (intOf i).toNat)
    case atStart => exact ⟨0, Nat.zero_le _, rfl, by repeat (first | with_reducible exact own_refl _ | with_reducible assumption | with_reducible apply own_alloc | with_reducible apply own_drewN | with_reducible apply own_drew | ((with_reducible refine own_setCell ?_ ?_ _); rotate_left; focus (first | (simp; done) | (simp; omega))) | (with_reducible (refine own_trans ?_ (by assumption)))), by simpa using Box.new w ((List.replicate xs.length (0 : Int)).map (Value.int .i64)) 2⟩
    case round =>
      obtain ⟨k, hk, rfl, T, hB⟩ := hrel
      by_cases hlt : k < xs.length
      · obtain ⟨x, hx⟩ : ∃ x, xs.getD k 0 = x := ⟨_, rfl⟩
        have c1 : wr.cell? ⟨b, off + k, none⟩ = some (.int .i64 x) := by rw [T.cell (p := ⟨b, off + k, none⟩) hb, ← hx]; exact HC.out k hlt
        have hg : ((xs.take k ++ List.replicate (xs.length - k) 0).map (Value.int .i64))[k]? = some (.int .i64 0) := by
          rw [List.getElem?_map, List.getElem?_append_right (by rw [List.length_take]; omega), List.getElem?_replicate, if_pos (by rw [List.length_take]; omega)]
          rfl
        obtain ⟨c2, f2⟩ := hB.2 k _ hg
        have HX := Lib.hid hx
        clear hx hg
        go_wp2
        go_roundw
        case rel => exact ⟨k + 1, by omega, by go_num, by repeat (first | with_reducible exact own_refl _ | with_reducible assumption | with_reducible apply own_alloc | with_reducible apply own_drewN | with_reducible apply own_drew | ((with_reducible refine own_setCell ?_ ?_ _); rotate_left; focus (first | (simp; done) | (simp; omega))) | (with_reducible (refine own_trans ?_ (by assumption)))), by rw [← part_set xs k hlt x HX.out]; exact hB.set k (by simp; omega) _⟩
        case measure => simp [intOf]; omega
      · have hke : k = xs.length := by omega
        have HB : Hid (Box wr w.heap.size (xs.map (Value.int .i64))) := Lib.hid (by subst hke; simpa using hB)
        clear hke hB
        go_wp2
        go_ret
        refine ⟨_, rfl, ⟨Nat.le_refl _, _, _, rfl, fun _ => ⟨w.heap.size, 0, rfl, Nat.le_refl _, HB.out.1, fun j hj => ?_⟩⟩, T, _, rfl⟩
        rw [Nat.zero_add]
        exact HB.out.2 j _ (by simp [List.getD, List.getElem?_eq_getElem hj])
theorem toS_any (a : Option Addr) (cap : Nat) (xs : List Int) (hn : xs.length ≤ 1048576) (w : World) (hr : Rs w a xs) :
    Calls Tryd.prog 17 #[.slice a xs.length cap] w fun e w' => ∃ v, e = .returned v ∧ Sl w' w.heap.size w'.heap.size v xs ∧ Below w.heap.size w w' :=
  (toS_full a cap xs hn w hr).mono fun _ _ ⟨v, h1, h2, h3, _⟩ => ⟨v, h1, h2, h3⟩
end Go.Proofs.YtdcomnnpnhinfaaDoor
