/- The law's helper that copies a slice of integers. -/
import Derived.Test.YtpmifhjbngocmaaSl
import Derived.Test.YtpmifhjbngocmaaOpenS
import Derived.Test.YtpmifhjbngocmaaGr
namespace Go.Proofs.Ytpmifhjbngocmaa
open Go.ChangeShapes Go.WideShapes Go.ChangeAt Go.RowKit

theorem made64 (n : Nat) (hn : n ≤ 1048576) (w : World) : (Instr.makeSlice 29 (.int .i64 n) (.int .i64 n)).run Try.prog w =
    .ok (.slice (some ⟨w.heap.size, 0, none⟩) n n) (w.alloc (.cells ((List.replicate n (0 : Int)).map (Value.int .i64)).toArray 2)) := by
  obtain ⟨i0, hi, hz0, hz1, hz2⟩ := info_parts info_i64
  have h := run_make (P := Try.prog) (w := w) 29 2 i0 (.int .i64 0) Try.underlying29 hi hz0 .i64 .i64 n n (by omega) (Int.le_refl _) (by rw [hz2]; omega) (by omega)
  rw [h, hz1]
  have e : madeCells (Value.int .i64 0).cells ((n : Int).toNat * 1) = ((List.replicate n (0 : Int)).map (Value.int .i64)).toArray := by
    apply Array.ext
    · simp [size_madeCells]
    · intro i h1 h2
      simp [madeCells, Value.cells, Nat.mod_one]
  rw [e]
  simp
theorem part_set (xs : List Int) (k : Nat) (hk : k < xs.length) (x : Int) (hx : xs.getD k 0 = x) :
    (((xs.take k ++ List.replicate (xs.length - k) 0).map (Value.int .i64)).set k (.int .i64 x)) = (xs.take (k + 1) ++ List.replicate (xs.length - (k + 1)) 0).map (Value.int .i64) := by
  subst hx
  rw [← List.map_set]
  congr 1
  apply List.ext_getElem
  · simp; omega
  · intro i h1 h2
    simp only [List.getElem_set, List.getElem_append, List.getElem_take, List.length_take, List.getElem_replicate]
    by_cases e : k = i
    · subst e
      simp [hk, List.getD]
      omega
    · rw [if_neg e]
      by_cases h3 : i < k
      · rw [dif_pos (by omega), dif_pos (by omega)]
      · rw [dif_neg (by omega), dif_neg (by omega)]

set_option maxHeartbeats 1000000 in
theorem toS_full (a : Option Addr) (cap : Nat) (xs : List Int) (hn : xs.length ≤ 1048576) (w : World) (hr : Rs w a xs) :
    Calls Try.prog 12 #[.slice a xs.length cap] w fun e w' => ∃ v, e = .returned v ∧ Sl w' w.heap.size w'.heap.size v xs ∧ Below w.heap.size w w' ∧ ∃ a', v = .slice a' xs.length xs.length := by
  rcases Nat.eq_zero_or_pos xs.length with h0 | h0
  · obtain rfl : xs = [] := List.length_eq_zero_iff.1 h0
    clear hr hn h0
    have hmk : ∀ w : World, (Instr.makeSlice 29 (.int .i64 0) (.int .i64 0)).run Try.prog w = .ok (.slice (some ⟨w.heap.size, 0, none⟩) 0 0) (w.alloc (.cells #[] 2)) := fun w => by simpa using made64 0 (by omega) w
    go_enter Try.func12, Try.ntmps12
    go_wp2
    go_loopw [4] (fun i wr => i = (.int .i64 0) ∧ Below w.heap.size w wr ∧ w.heap.size + 1 ≤ wr.heap.size) (fun _ _ => 0)
    case atStart => exact ⟨rfl, by repeat (first | with_reducible exact own_refl _ | with_reducible assumption | with_reducible apply own_alloc | with_reducible apply own_drewN | with_reducible apply own_drew | ((with_reducible refine own_setCell ?_ ?_ _); rotate_left; focus (first | (simp; done) | (simp; omega))) | (with_reducible (refine own_trans ?_ (by assumption)))), by simp⟩
    case round =>
      obtain ⟨rfl, T, hz⟩ := hrel
      go_wp2
      go_ret
      exact ⟨_, rfl, ⟨Nat.le_refl _, _, _, rfl, fun h => absurd h (by simp)⟩, T, _, rfl⟩
  · obtain ⟨b, off, rfl, hb, hc⟩ := hr h0
    have HC := Lib.hid hc
    clear hc
    have hmk := made64 xs.length hn
    go_enter Try.func12, Try.ntmps12
    go_wp2
    go_loopw [4] (fun i wr => ∃ k : Nat, k ≤ xs.length ∧ i = (.int .i64 k) ∧ Below w.heap.size w wr ∧ Box wr w.heap.size ((xs.take k ++ List.replicate (xs.length - k) 0).map (Value.int .i64))) (fun i _ => xs.length - (intOf i).toNat)
    case atStart => exact ⟨0, Nat.zero_le _, rfl, by repeat (first | with_reducible exact own_refl _ | with_reducible assumption | with_reducible apply own_alloc | with_reducible apply own_drewN | with_reducible apply own_drew | ((with_reducible refine own_setCell ?_ ?_ _); rotate_left; focus (first | (simp; done) | (simp; omega))) | (with_reducible (refine own_trans ?_ (by assumption)))), by simpa using Box.new w ((List.replicate xs.length (0 : Int)).map (Value.int .i64)) 2⟩
    case round =>
      obtain ⟨k, hk, rfl, T, hB⟩ := hrel
      by_cases hlt : k < xs.length
      · obtain ⟨x, hx⟩ : ∃ x, xs.getD k 0 = x := ⟨_, rfl⟩
        have c1 : wr.cell? ⟨b, off + k, none⟩ = some (.int .i64 x) := by rw [T.cell (p := ⟨b, off + k, none⟩) hb, ← hx]; exact HC.out k hlt
        have hg : ((xs.take k ++ List.replicate (xs.length - k) 0).map (Value.int .i64))[k]? = some (.int .i64 0) := by
          rw [List.getElem?_map, List.getElem?_append_right (by rw [List.length_take]; omega), List.getElem?_replicate, if_pos (by rw [List.length_take]; omega)]
          rfl
        obtain ⟨c2, f2⟩ := hB.2 k _ hg
        have HX := Lib.hid hx
        clear hx hg
        go_wp2
        go_roundw
        case rel => exact ⟨k + 1, by omega, by go_num, by repeat (first | with_reducible exact own_refl _ | with_reducible assumption | with_reducible apply own_alloc | with_reducible apply own_drewN | with_reducible apply own_drew | ((with_reducible refine own_setCell ?_ ?_ _); rotate_left; focus (first | (simp; done) | (simp; omega))) | (with_reducible (refine own_trans ?_ (by assumption)))), by rw [← part_set xs k hlt x HX.out]; exact hB.set k (by simp; omega) _⟩
        case measure => simp [intOf]; omega
      · have hke : k = xs.length := by omega
        have HB : Hid (Box wr w.heap.size (xs.map (Value.int .i64))) := Lib.hid (by subst hke; simpa using hB)
        clear hke hB
        go_wp2
        go_ret
        refine ⟨_, rfl, ⟨Nat.le_refl _, _, _, rfl, fun _ => ⟨w.heap.size, 0, rfl, Nat.le_refl _, HB.out.1, fun j hj => ?_⟩⟩, T, _, rfl⟩
        rw [Nat.zero_add]
        exact HB.out.2 j _ (by simp [List.getD, List.getElem?_eq_getElem hj])
theorem toS_any (a : Option Addr) (cap : Nat) (xs : List Int) (hn : xs.length ≤ 1048576) (w : World) (hr : Rs w a xs) :
    Calls Try.prog 12 #[.slice a xs.length cap] w fun e w' => ∃ v, e = .returned v ∧ Sl w' w.heap.size w'.heap.size v xs ∧ Below w.heap.size w w' :=
  (toS_full a cap xs hn w hr).mono fun _ _ ⟨v, h1, h2, h3, _⟩ => ⟨v, h1, h2, h3⟩
end Go.Proofs.Ytpmifhjbngocmaa
