/- Slices of integers that a call has made: how they read, and the laws' helpers over them. -/
import Derived.Test.YtdcomnnpnhinfaaDoorBase
namespace Go.Proofs.YtdcomnnpnhinfaaDoor
open Go.ChangeShapes Go.WideShapes Go.ChangeAt Go.RowKit

/-- The value v is a slice that reads as xs; its memory lies in one block from L on and below U, not frozen. -/
def Sl (w : World) (L U : Nat) (v : Value) (xs : List Int) : Prop :=
  U ≤ w.heap.size ∧ ∃ (a : Option Addr) (cap : Nat), v = .slice a xs.length cap ∧ (0 < xs.length → ∃ g off, a = some ⟨g, off, none⟩ ∧ L ≤ g ∧ g < U ∧
    ∀ k, k < xs.length → w.cell? ⟨g, off + k, none⟩ = some (.int .i64 (xs.getD k 0)) ∧ w.frozen? ⟨g, off + k, none⟩ = false)

theorem Sl.nil (w : World) (L U : Nat) (h : U ≤ w.heap.size) : Sl w L U (.slice none 0 0) [] := ⟨h, none, 0, rfl, fun h => absurd h (by simp)⟩
theorem Sl.below {w w' : World} {L U : Nat} {v : Value} {xs : List Int} (h : Sl w L U v xs) (hb : Below U w w') : Sl w' L U v xs := by
  obtain ⟨hu, a, cap, rfl, hc⟩ := h
  refine ⟨Nat.le_trans hu hb.size, a, cap, rfl, fun hn => ?_⟩
  obtain ⟨g, off, rfl, hg, hg', hcell⟩ := hc hn
  refine ⟨g, off, rfl, hg, hg', fun k hk => ?_⟩
  rw [hb.cell (p := ⟨g, off + k, none⟩) hg', hb.frozen (p := ⟨g, off + k, none⟩) hg']
  exact hcell k hk
theorem Sl.own {w w' : World} {L U : Nat} {v : Value} {xs : List Int} (h : Sl w L U v xs) (hb : Below w.heap.size w w') : Sl w' L U v xs := h.below (hb.mono h.1)

/-- m, m + 1, .. -/
def ramp (m : Int) (n : Nat) : List Int := (List.range n).map fun i : Nat => m + (i : Int)
theorem ramp_length (m : Int) (n : Nat) : (ramp m n).length = n := by simp [ramp]
theorem ramp_get (m : Int) (n k : Nat) (h : k < n) : (ramp m n).getD k 0 = m + k := by simp [ramp, List.getD, h]

/-- After k marks: the first k of the ramp, then the rest of xs. -/
def part (m : Int) (xs : List Int) (k : Nat) : List Int := ramp m k ++ xs.drop k
theorem part_length (m : Int) (xs : List Int) (k : Nat) (h : k ≤ xs.length) : (part m xs k).length = xs.length := by simp [part, ramp_length]; omega
theorem part_zero (m : Int) (xs : List Int) : part m xs 0 = xs := by simp [part, ramp]
theorem part_all (m : Int) (xs : List Int) : part m xs xs.length = ramp m xs.length := by simp [part]
theorem part_get (m : Int) (xs : List Int) (k j : Nat) : (part m xs k).getD j 0 = if j < k then m + j else xs.getD j 0 := by
  unfold part
  by_cases h : j < k
  · rw [if_pos h, List.getD, List.getElem?_append_left (by rw [ramp_length]; exact h)]
    exact ramp_get m k j h
  · rw [if_neg h, List.getD, List.getElem?_append_right (by rw [ramp_length]; omega), ramp_length, List.getElem?_drop, show k + (j - k) = j by omega]
    rfl

theorem slice_at {w : World} {L U : Nat} {a : Option Addr} {n cap : Nat} {xs : List Int} (h : Sl w L U (.slice a n cap) xs) : n = xs.length ∧ U ≤ w.heap.size ∧
    (0 < xs.length → ∃ g off, a = some ⟨g, off, none⟩ ∧ L ≤ g ∧ g < U ∧ ∀ k, k < xs.length → w.cell? ⟨g, off + k, none⟩ = some (.int .i64 (xs.getD k 0)) ∧ w.frozen? ⟨g, off + k, none⟩ = false) := by
  obtain ⟨hu, a', cap', hv, hc⟩ := h
  injection hv with h1 h2 h3
  subst h1 h2 h3
  exact ⟨rfl, hu, hc⟩

set_option maxHeartbeats 1000000 in
theorem eqS_same (v u : Value) (xs : List Int) (L U L' U' : Nat) (w : World) (hn : xs.length ≤ 4294967296) (hv : Sl w L U v xs) (hu : Sl w L' U' u xs) :
    Calls Tryd.prog 19 #[v, u] w fun e w' => e = .returned (.bool true) ∧ Below w.heap.size w w' := by
  obtain ⟨z, a, cap, rfl, hc⟩ := hv
  obtain ⟨z', a', cap', rfl, hc'⟩ := hu
  rcases Nat.eq_zero_or_pos xs.length with h0 | h0
  · rw [h0]
    clear hc hc' h0 hn
    go_enter Tryd.func19, Tryd.ntmps19
    go_wp2
    go_loop [5] (fun i => i = (.int .i64 0)) (fun _ => 0)
    case atStart => rfl
    case round =>
      subst hrel
      go_wp2
      go_ret
      exact ⟨rfl, own_refl _⟩
  · obtain ⟨g, off, rfl, _, hg, hc⟩ := hc h0
    obtain ⟨g', off', rfl, _, hg', hc'⟩ := hc' h0
    have HC := Lib.hid hc
    have HC' := Lib.hid hc'
    clear hc hc'
    go_enter Tryd.func19, Tryd.ntmps19
    go_wp2
    go_loopw [5] (fun i wr => ∃ k : Nat, k ≤ xs.length ∧ i = (.int .i64 k) ∧ Below w.heap.size w wr) (fun i _ => xs.length - (intOf i).toNat)
    case atStart => exact ⟨0, Nat.zero_le _, rfl, own_refl _⟩
    case round =>
      obtain ⟨k, hk, rfl, hb⟩ := hrel
      by_cases hlt : k < xs.length
      · obtain ⟨x, hx⟩ : ∃ x, xs.getD k 0 = x := ⟨_, rfl⟩
        have c1 : wr.cell? ⟨g, off + k, none⟩ = some (.int .i64 x) := by rw [hb.cell (p := ⟨g, off + k, none⟩) (by show g < _; omega), ← hx]; exact (HC.out k hlt).1
        have c2 : wr.cell? ⟨g', off' + k, none⟩ = some (.int .i64 x) := by rw [hb.cell (p := ⟨g', off' + k, none⟩) (by show g' < _; omega), ← hx]; exact (HC'.out k hlt).1
        clear hx
        go_wp2
        go_quiet (fail)
        go_wp2
        go_roundw
        case rel => exact ⟨k + 1, by omega, by go_num, below_drewN' hb _⟩
        case measure => simp [intOf]; omega
      · go_wp2
        go_ret
        exact ⟨rfl, hb⟩

set_option maxHeartbeats 1000000 in
theorem markS_any (v : Value) (xs : List Int) (m : Int) (L U : Nat) (w : World) (hn : xs.length ≤ 4294967296) (hm : 0 ≤ m) (hm' : m ≤ 4294967296) (hv : Sl w L U v xs) :
    Calls Tryd.prog 20 #[v, (.int .i64 m)] w fun e w' => e = .returned (.int .i64 (m + xs.length)) ∧ Sl w' L U v (ramp m xs.length) ∧ Below L w w' := by
  obtain ⟨z, a, cap, rfl, hc⟩ := hv
  rcases Nat.eq_zero_or_pos xs.length with h0 | h0
  · rw [h0]
    clear hc h0 hn
    go_enter Tryd.func20, Tryd.ntmps20
    go_wp2
    go_loop [1, 5] (fun q i => i = (.int .i64 0) ∧ q = (.int .i64 m)) (fun _ _ => 0)
    case atStart => exact ⟨rfl, rfl⟩
    case round =>
      obtain ⟨rfl, rfl⟩ := hrel
      go_wp2
      go_ret
      exact ⟨ret_int (by simp), ⟨z, a, cap, rfl, fun h => absurd h (by simp [ramp])⟩, Below.refl _ _⟩
  · obtain ⟨g, off, rfl, hL, hg, hc⟩ := hc h0
    have HC := Lib.hid hc
    clear hc
    go_enter Tryd.func20, Tryd.ntmps20
    go_wp2
    go_loopw [1, 5] (fun q i wr => ∃ k : Nat, k ≤ xs.length ∧ i = (.int .i64 k) ∧ q = (.int .i64 (m + k)) ∧ w.heap.size ≤ wr.heap.size ∧ Below L w wr ∧
      ∀ j, j < xs.length → wr.cell? ⟨g, off + j, none⟩ = some (.int .i64 ((part m xs k).getD j 0)) ∧ wr.frozen? ⟨g, off + j, none⟩ = false) (fun _ i _ => xs.length - (intOf i).toNat)
    case atStart => exact ⟨0, Nat.zero_le _, rfl, by simp, Nat.le_refl _, Below.refl _ _, by rw [part_zero]; exact HC.out⟩
    case round =>
      obtain ⟨k, hk, rfl, rfl, hz, hb, hcells⟩ := hrel
      have HK := Lib.hid hcells
      clear hcells
      by_cases hlt : k < xs.length
      · obtain ⟨x, hx⟩ : ∃ x, wr.cell? ⟨g, off + k, none⟩ = some x := ⟨_, (HK.out k hlt).1⟩
        have hf := (HK.out k hlt).2
        go_wp2
        go_roundw
        case rel =>
          refine ⟨k + 1, by omega, by go_num, by go_num, by simpa [World.setCell] using hz, hb.setCell hL _, ?_⟩
          intro j hj
          have hp := HK.out j hj
          refine ⟨?_, (World.frozen?_setCell _ _ _ _).trans hp.2⟩
          by_cases e : j = k
          · subst e
            rw [World.cell?_setCell_same _ _ _ hx, part_get, if_pos (by omega)]
          · rw [World.cell?_setCell_other _ _ _ _ (by first | (simp; done) | (simp; omega)), hp.1, part_get, part_get]
            by_cases e2 : j < k
            · rw [if_pos e2, if_pos (by omega)]
            · rw [if_neg e2, if_neg (by omega)]
        case measure => simp [intOf]; omega
      · have HE : k = xs.length := by omega
        have HE2 := Lib.hid HE
        clear HE
        go_wp2
        go_ret
        refine ⟨ret_int (by rw [HE2.out]), ⟨Nat.le_trans z hz, _, cap, by rw [ramp_length], fun _ => ⟨g, off, rfl, hL, hg, fun j hj => ?_⟩⟩, hb⟩
        rw [ramp_length] at hj
        have hp := HK.out j hj
        rw [HE2.out, part_all] at hp
        exact hp

set_option maxHeartbeats 1000000 in
theorem heldS_ramp (v : Value) (m : Int) (n : Nat) (L U : Nat) (w : World) (hn : n ≤ 4294967296) (hm : 0 ≤ m) (hm' : m ≤ 4294967296) (hv : Sl w L U v (ramp m n)) :
    Calls Tryd.prog 21 #[v, (.int .i64 m)] w fun e w' => e = .returned (.int .i64 (m + n)) ∧ w = w' := by
  obtain ⟨z, a, cap, rfl, hc⟩ := hv
  rw [ramp_length] at hc ⊢
  rcases Nat.eq_zero_or_pos n with h0 | h0
  · subst h0
    clear hc hn
    go_enter Tryd.func21, Tryd.ntmps21
    go_wp2
    go_loop [1, 5] (fun q i => i = (.int .i64 0) ∧ q = (.int .i64 m)) (fun _ _ => 0)
    case atStart => exact ⟨rfl, rfl⟩
    case round =>
      obtain ⟨rfl, rfl⟩ := hrel
      go_wp2
      go_ret
      exact ⟨ret_int (by simp), rfl⟩
  · obtain ⟨g, off, rfl, hL, hg, hc⟩ := hc h0
    have HC := Lib.hid hc
    clear hc
    go_enter Tryd.func21, Tryd.ntmps21
    go_wp2
    go_loop [1, 5] (fun q i => ∃ k : Nat, k ≤ n ∧ i = (.int .i64 k) ∧ q = (.int .i64 (m + k))) (fun _ i => n - (intOf i).toNat)
    case atStart => exact ⟨0, Nat.zero_le _, rfl, by simp⟩
    case round =>
      obtain ⟨k, hk, rfl, rfl⟩ := hrel
      by_cases hlt : k < n
      · have hx : w.cell? ⟨g, off + k, none⟩ = some (.int .i64 (m + k)) := by rw [(HC.out k hlt).1, ramp_get m n k hlt]
        go_wp2
        go_round
        case rel => exact ⟨k + 1, by omega, by go_num, by go_num⟩
        case measure => first | (simp [intOf]; done) | (simp [intOf]; omega)
      · have HE2 := Lib.hid (show k = n by omega)
        go_wp2
        go_ret
        exact ⟨ret_int (by rw [HE2.out]), rfl⟩
end Go.Proofs.YtdcomnnpnhinfaaDoor
