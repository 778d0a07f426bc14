/- Marks and holds over slices of triples. -/
import Derived.Test.YtkeadknbdihkmaaDoorGrHM
namespace Go.Proofs.YtkeadknbdihkmaaDoor
open Go.ChangeShapes Go.WideShapes Go.ChangeAt Go.RowKit

/-- Block g holds the marks up to t, then xs; none frozen. -/
def MkH (w : World) (g N : Nat) (m : Int) (xs : List Int) (t : Nat) : Prop := ∀ j, j < N → w.cell? ⟨g, j, none⟩ = some (.int .i64 ((part m xs t).getD j 0)) ∧ w.frozen? ⟨g, j, none⟩ = false
theorem MkH.step {w : World} {g N t : Nat} {m : Int} {xs : List Int} (h : MkH w g N m xs t) (ht : t < N) {p : Nat} (hp : p = t) {y : Int} (hy : y = m + t) : MkH (w.setCell ⟨g, p, none⟩ (.int .i64 y)) g N m xs (t + 1) := by
  subst hp hy
  intro j hj
  have hq := h j hj
  refine ⟨?_, (World.frozen?_setCell _ _ _ _).trans hq.2⟩
  by_cases e : j = p
  · subst e
    rw [World.cell?_setCell_same _ _ _ hq.1, part_get, if_pos (by omega)]
  · rw [World.cell?_setCell_other _ _ _ _ (by first | (simp; done) | (simp; omega)), hq.1, part_get, part_get]
    by_cases e2 : j < p
    · rw [if_pos e2, if_pos (by omega)]
    · rw [if_neg e2, if_neg (by omega)]

set_option maxHeartbeats 4000000 in
theorem markHS_any (v : Value) (n : Nat) (xs : List Int) (m : Int) (L U : Nat) (w : World) (hn : n ≤ 1000000000) (hm : 0 ≤ m) (hm' : m ≤ 4294967296) (hv : SlH w L U v n xs) :
    Calls Tryd.prog 15 #[v, (.int .i64 m)] w fun e w' => e = .returned (.int .i64 (m + (3 * n : Nat))) ∧ SlH w' L U v n (ramp m (3 * n)) ∧ Below L w w' := by
  obtain ⟨hl, z, a, cap, rfl, hc⟩ := hv
  rcases Nat.eq_zero_or_pos n with h0 | h0
  · subst h0
    clear hc hn
    go_enter Tryd.func15, Tryd.ntmps15
    go_wp2
    go_loop [1, 5] (fun q i => i = (.int .i64 0) ∧ q = (.int .i64 m)) (fun _ _ => 0)
    case atStart => exact ⟨rfl, rfl⟩
    case round =>
      obtain ⟨rfl, rfl⟩ := hrel
      go_wp2
      go_ret
      exact ⟨ret_int (by simp), ⟨by simp [ramp], z, a, cap, rfl, fun h => absurd h (by simp)⟩, Below.refl _ _⟩
  · obtain ⟨g, rfl, hL, hg, hc⟩ := hc h0
    have HC : Hid (MkH w g (3 * n) m xs 0) := Lib.hid (by unfold MkH; rw [part_zero]; exact hc)
    clear hc
    go_enter Tryd.func15, Tryd.ntmps15
    go_wp2
    go_loopw [1, 5] (fun q i wr => ∃ k : Nat, k ≤ n ∧ i = (.int .i64 k) ∧ q = (.int .i64 (m + (3 * k : Nat))) ∧ w.heap.size ≤ wr.heap.size ∧ Below L w wr ∧ Hid (MkH wr g (3 * n) m xs (3 * k))) (fun _ i _ => n - (intOf i).toNat)
    case atStart => exact ⟨0, Nat.zero_le _, rfl, by simp, Nat.le_refl _, Below.refl _ _, HC⟩
    case round =>
      obtain ⟨k, hk, rfl, hq, hz, hb, HK⟩ := hrel
      obtain ⟨q, hq2⟩ : ∃ q : Int, m + (3 * k : Nat) = q := ⟨_, rfl⟩
      have HQ := Lib.hid hq2
      have hqb : 0 ≤ q ∧ q ≤ 8294967296 := by omega
      rw [hq2] at hq
      subst hq
      clear hq2
      by_cases hlt : k < n
      · obtain ⟨x0, hx0⟩ : ∃ x, wr.cell? ⟨g, k * 3, none⟩ = some x := ⟨_, (HK.out (k * 3) (by omega)).1⟩
        have hf0 := (HK.out (k * 3) (by omega)).2
        obtain ⟨x1, hx1⟩ : ∃ x, wr.cell? ⟨g, k * 3 + 1, none⟩ = some x := ⟨_, (HK.out (k * 3 + 1) (by omega)).1⟩
        have hf1 := (HK.out (k * 3 + 1) (by omega)).2
        obtain ⟨x2, hx2⟩ : ∃ x, wr.cell? ⟨g, k * 3 + 2, none⟩ = some x := ⟨_, (HK.out (k * 3 + 2) (by omega)).1⟩
        have hf2 := (HK.out (k * 3 + 2) (by omega)).2
        go_wp2
        go_rounds 4
        go_roundw
        case rel =>
          refine ⟨k + 1, by omega, by go_num, by have := HQ.out; go_num, by simpa [World.setCell] using hz, (((hb.setCell hL _).setCell hL _).setCell hL _), Lib.hid ?_⟩
          have s1 := HK.out.step (p := k * 3) (by omega) (by omega) HQ.out.symm
          have s2 := s1.step (p := k * 3 + 1) (y := q + 1) (by omega) (by omega) (by have := HQ.out; omega)
          have s3 := s2.step (p := k * 3 + 2) (y := q + 1 + 1) (by omega) (by omega) (by have := HQ.out; omega)
          rw [show 3 * k + 1 + 1 + 1 = 3 * (k + 1) by omega] at s3
          exact s3
        case measure => simp [intOf]; omega
      · have HE := Lib.hid (show k = n by omega)
        go_wp2
        go_ret
        refine ⟨ret_int (by have h1 := HQ.out; have h2 := HE.out; omega), ⟨by rw [ramp_length], Nat.le_trans z hz, _, cap, rfl, fun _ => ⟨g, rfl, hL, hg, fun j hj => ?_⟩⟩, hb⟩
        have hp := HK.out j hj
        rw [HE.out, ← hl, part_all] at hp
        rwa [hl] at hp

set_option maxHeartbeats 4000000 in
theorem heldHS_ramp (v : Value) (m : Int) (n : Nat) (L U : Nat) (w : World) (hn : n ≤ 1000000000) (hm : 0 ≤ m) (hm' : m ≤ 4294967296) (hv : SlH w L U v n (ramp m (3 * n))) :
    Calls Tryd.prog 16 #[v, (.int .i64 m)] w fun e w' => e = .returned (.int .i64 (m + (3 * n : Nat))) ∧ w = w' := by
  obtain ⟨_, z, a, cap, rfl, hc⟩ := hv
  rcases Nat.eq_zero_or_pos n with h0 | h0
  · subst h0
    clear hc hn
    go_enter Tryd.func16, Tryd.ntmps16
    go_wp2
    go_loop [1, 5] (fun q i => i = (.int .i64 0) ∧ q = (.int .i64 m)) (fun _ _ => 0)
    case atStart => exact ⟨rfl, rfl⟩
    case round =>
      obtain ⟨rfl, rfl⟩ := hrel
      go_wp2
      go_ret
      exact ⟨ret_int (by simp), rfl⟩
  · obtain ⟨g, rfl, hL, hg, hc⟩ := hc h0
    have HC := Lib.hid hc
    clear hc
    go_enter Tryd.func16, Tryd.ntmps16
    go_wp2
    go_loop [1, 5] (fun q i => ∃ k : Nat, k ≤ n ∧ i = (.int .i64 k) ∧ q = (.int .i64 (m + (3 * k : Nat)))) (fun _ i => n - (intOf i).toNat)
    case atStart => exact ⟨0, Nat.zero_le _, rfl, by simp⟩
    case round =>
      obtain ⟨k, hk, rfl, hq⟩ := hrel
      obtain ⟨q, hq2⟩ : ∃ q : Int, m + (3 * k : Nat) = q := ⟨_, rfl⟩
      have HQ := Lib.hid hq2
      have hqb : 0 ≤ q ∧ q ≤ 8294967296 := by omega
      rw [hq2] at hq
      subst hq
      clear hq2
      by_cases hlt : k < n
      · have hx0 : w.cell? ⟨g, k * 3, none⟩ = some (.int .i64 q) := by rw [(HC.out (k * 3) (by omega)).1, ramp_get m _ _ (by omega)]; have := HQ.out; congr 2; omega
        have hx1 : w.cell? ⟨g, k * 3 + 1, none⟩ = some (.int .i64 (q + 1)) := by rw [(HC.out (k * 3 + 1) (by omega)).1, ramp_get m _ _ (by omega)]; have := HQ.out; congr 2; omega
        have hx2 : w.cell? ⟨g, k * 3 + 2, none⟩ = some (.int .i64 (q + 1 + 1)) := by rw [(HC.out (k * 3 + 2) (by omega)).1, ramp_get m _ _ (by omega)]; have := HQ.out; congr 2; omega
        go_wp2
        go_rounds 4
        go_round
        case rel => exact ⟨k + 1, by omega, by go_num, by have := HQ.out; go_num⟩
        case measure => first | (simp [intOf]; done) | (simp [intOf]; omega)
      · have HE := Lib.hid (show k = n by omega)
        go_wp2
        go_ret
        exact ⟨ret_int (by have h1 := HQ.out; have h2 := HE.out; omega), rfl⟩
end Go.Proofs.YtkeadknbdihkmaaDoor
