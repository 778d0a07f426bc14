/- Three numbers in order: both sides. -/
import Derived.Test.YtafmfdhogoheaaaDoorShs
import Derived.Test.YtafmfdhogoheaaaDoorIsT
import Derived.Lib.OwnBridge
namespace Go.Proofs.YtafmfdhogoheaaaDoor
open Go.ChangeShapes Go.WideShapes Go.ChangeAt Go.RowKit

def lo3 (a b c : Int) : Int := if c < (if b < a then b else a) then c else if b < a then b else a
def hi3 (a b c : Int) : Int := if (if a < b then b else a) < c then c else if a < b then b else a
def mi3 (a b c : Int) : Int := a + b + c - lo3 a b c - hi3 a b c
theorem ms2 (a b : Int) : ([a, b].mergeSort fun x y => decide (x ≤ y)) = if a ≤ b then [a, b] else [b, a] := by
  unfold List.mergeSort
  simp [List.MergeSort.Internal.splitInTwo, List.merge]
theorem sort3 (a b c : Int) : ([a, b, c].mergeSort fun x y => decide (x ≤ y)) = [lo3 a b c, mi3 a b c, hi3 a b c] := by
  unfold List.mergeSort
  simp only [List.MergeSort.Internal.splitInTwo]
  simp [ms2]
  unfold mi3 lo3 hi3
  by_cases h1 : a ≤ b <;> by_cases h2 : b ≤ c <;> by_cases h3 : a ≤ c <;> simp [h1, h2, h3] <;> (repeat split) <;> simp_all <;> omega

theorem lo3_is (a b c : Int) : lo3 a b c ≤ a ∧ lo3 a b c ≤ b ∧ lo3 a b c ≤ c ∧ (lo3 a b c = a ∨ lo3 a b c = b ∨ lo3 a b c = c) := by unfold lo3; split <;> split <;> omega
theorem hi3_is (a b c : Int) : a ≤ hi3 a b c ∧ b ≤ hi3 a b c ∧ c ≤ hi3 a b c ∧ (hi3 a b c = a ∨ hi3 a b c = b ∨ hi3 a b c = c) := by unfold hi3; split <;> split <;> omega
theorem box_holds {w : World} {g : Nat} {a b c : Int} (h : Box w g [.int .i64 a, .int .i64 b, .int .i64 c]) : Sort.Holds (Value.int .i64) w g 0 [a, b, c].toArray := by
  intro j hj
  have : j = 0 ∨ j = 1 ∨ j = 2 := by simp at hj; omega
  obtain ⟨_, c0, c1, c2, f0, f1, f2⟩ := h.three
  rcases this with rfl | rfl | rfl
  · exact ⟨c0, f0⟩
  · exact ⟨c1, f1⟩
  · exact ⟨c2, f2⟩
theorem holds_box {w : World} {g : Nat} {a b c : Int} (hg : g < w.heap.size) (h : Sort.Holds (Value.int .i64) w g 0 [a, b, c].toArray) : Box w g [.int .i64 a, .int .i64 b, .int .i64 c] := by
  refine ⟨hg, fun i u hu => ?_⟩
  match i, hu with
  | 0, hu => simp at hu; subst hu; exact h 0 (by simp)
  | 1, hu => simp at hu; subst hu; exact h 1 (by simp)
  | 2, hu => simp at hu; subst hu; exact h 2 (by simp)
theorem below_grow3 {L : Nat} {w w1 : World} {os : Array Obj} (h : Below L w w1) (hL : L ≤ w1.heap.size) : Below L w (Sort.grow w1 os) :=
  h.trans ⟨rfl, rfl, rfl, by simp, fun k hk => Sort.heap_grow_old w1 os (by omega)⟩
theorem sort3_box (w : World) (g : Nat) (a b c : Int) (h : Box w g [.int .i64 a, .int .i64 b, .int .i64 c]) :
    Calls Tryd.prog 109 #[.slice (some ⟨g, 0, none⟩) 3 3] w fun e w' => e = .returned (.tuple #[]) ∧ Box w' g [.int .i64 (lo3 a b c), .int .i64 (mi3 a b c), .int .i64 (hi3 a b c)] ∧ Below g w w' ∧ (∀ k xs, k ≠ g → Box w k xs → Box w' k xs) := by
  refine (slices_Sort_int g 0 3 [a, b, c] w (box_holds h) h.1 (by simp)).mono ?_
  rintro e w' ⟨rfl, n, os, rfl⟩
  rw [sort3]
  have hg : g < (Sort.putRow (Value.int .i64) (Sort.ahead w n) g 0 [lo3 a b c, mi3 a b c, hi3 a b c].toArray).heap.size := by
    have := h.1
    simpa [Sort.putRow, Sort.mapBlock, Sort.ahead] using this
  have b1 : Below g w (Sort.putRow (Value.int .i64) (Sort.ahead w n) g 0 [lo3 a b c, mi3 a b c, hi3 a b c].toArray) := Lib.below_putRow (Below.refl _ _) (Nat.le_refl _)
  refine ⟨rfl, ?_, below_grow3 b1 (by omega), ?_⟩
  · refine holds_box (by rw [Sort.size_grow]; omega) (Sort.holds_grow _ _ _ _ _ _ hg (Sort.holds_putRow _ _ _ _ [a, b, c].toArray _ (box_holds h) (by simp)))
  · intro k xs hk hB
    have hk2 : k < (Sort.putRow (Value.int .i64) (Sort.ahead w n) g 0 [lo3 a b c, mi3 a b c, hi3 a b c].toArray).heap.size := by
      have := hB.1
      simpa [Sort.putRow, Sort.mapBlock, Sort.ahead] using this
    refine ⟨by rw [Sort.size_grow]; omega, fun i u hu => ?_⟩
    rw [Sort.cell?_grow _ _ _ hk2, Sort.frozen?_grow _ _ _ hk2, Sort.frozen?_putRow, Sort.cell?_putRow_other _ _ _ _ _ _ (.inl hk)]
    exact hB.2 i u hu

/-- numbers whose sum of three is one of int64 -/
def Bd (x : Int) : Prop := -3050000000000000000 ≤ x ∧ x ≤ 3050000000000000000
set_option maxHeartbeats 1000000 in
theorem l09Sorted_any (a b c : Int) (ha : Bd a) (hb : Bd b) (hc : Bd c) (w : World) :
    Calls Tryd.prog 65 #[(.int .i64 a), (.int .i64 b), (.int .i64 c)] w fun e w' => e = .returned (.agg #[.int .i64 (lo3 a b c), .int .i64 (mi3 a b c), .int .i64 (hi3 a b c)]) ∧ Below w.heap.size w w' := by
  obtain ⟨l, hl⟩ : ∃ l, lo3 a b c = l := ⟨_, rfl⟩
  obtain ⟨h, hh⟩ : ∃ h, hi3 a b c = h := ⟨_, rfl⟩
  have L := lo3_is a b c
  have H := hi3_is a b c
  have hm : mi3 a b c = a + b + c - l - h := by unfold mi3; rw [hl, hh]
  rw [hm]
  rw [hl] at L ⊢
  rw [hh] at H ⊢
  unfold Bd at ha hb hc
  have g1 : IntKind.i64.wrap (a + b) = a + b := IntWalk.i64_in _ (by omega)
  have g2 : IntKind.i64.wrap (a + b + c) = a + b + c := IntWalk.i64_in _ (by omega)
  have g3 : IntKind.i64.wrap (a + b + c - l) = a + b + c - l := IntWalk.i64_in _ (by omega)
  have g4 : IntKind.i64.wrap (a + b + c - l - h) = a + b + c - l - h := IntWalk.i64_in _ (by omega)
  have HL := Lib.hid hl
  have HH := Lib.hid hh
  clear hl hh hm L H ha hb hc
  go_enter Tryd.func65, Tryd.ntmps65
  go_upto_region 1 with fail
  go_cut [7, 8] (fun s7 s8 wx => s7 = (.int .i64 l) ∧ s8 = (.int .i64 h) ∧ wx = w.alloc (.cells #[.int .i64 0, .int .i64 0, .int .i64 0] 36))
  case first =>
    go_wp2_with fail
    all_goals
      go_meet
      exact ⟨by rw [← HL.out]; congr 1; unfold lo3; split <;> split <;> omega, by rw [← HH.out]; congr 1; unfold hi3; split <;> split <;> omega, rfl⟩
  case rest =>
    obtain ⟨rfl, rfl, rfl⟩ := hcut
    go_wp2
    exact bodyPost_ret (v := (.agg #[.int .i64 l, .int .i64 (a + b + c - l - h), .int .i64 h])) (by simp [results, Tryd.results65, go_sem]) rfl ⟨rfl, by repeat (first | with_reducible exact own_refl _ | with_reducible assumption | with_reducible apply own_alloc | with_reducible apply own_drewN | with_reducible apply own_drew | ((with_reducible refine own_setCell ?_ ?_ _); rotate_left; focus (first | (simp; done) | (simp; omega))) | (with_reducible (refine own_trans ?_ (by assumption))))⟩
set_option maxHeartbeats 1000000 in
theorem inOrder_any (a b c : Int) (w : World) :
    Calls Tryd.prog 79 #[(.agg #[.int .i64 a, .int .i64 b, .int .i64 c])] w fun e w' => e = .returned (.agg #[.int .i64 (lo3 a b c), .int .i64 (mi3 a b c), .int .i64 (hi3 a b c)]) ∧ Below w.heap.size w w' := by
  have B0 : Box ((w.alloc (.cells #[.int .i64 a, .int .i64 b, .int .i64 c] 36)).alloc (.cells #[.int .i64 0, .int .i64 0, .int .i64 0] 36)) w.heap.size [.int .i64 a, .int .i64 b, .int .i64 c] := Box.alloc (Box.new _ _ _) _
  have B1 : Box ((w.alloc (.cells #[.int .i64 a, .int .i64 b, .int .i64 c] 36)).alloc (.cells #[.int .i64 0, .int .i64 0, .int .i64 0] 36)) (w.heap.size + 1) [.int .i64 0, .int .i64 0, .int .i64 0] := Box.newAt (by simp) _ _
  have T : Below w.heap.size w ((w.alloc (.cells #[.int .i64 a, .int .i64 b, .int .i64 c] 36)).alloc (.cells #[.int .i64 0, .int .i64 0, .int .i64 0] 36)) := by repeat (first | with_reducible exact own_refl _ | with_reducible assumption | with_reducible apply own_alloc | with_reducible apply own_drewN | with_reducible apply own_drew | ((with_reducible refine own_setCell ?_ ?_ _); rotate_left; focus (first | (simp; done) | (simp; omega))) | (with_reducible (refine own_trans ?_ (by assumption))))
  go_enter Tryd.func79, Tryd.ntmps79
  go_wp2_with fail
  refine (sort3_box _ _ a b c B0).mono ?_
  rintro e w1 ⟨rfl, B2, hb1, hk⟩
  have B3 := hk _ _ (by omega) B1
  have T := T.trans hb1
  clear hk hb1 B0 B1
  obtain ⟨_, _, _, _, _, _, _⟩ := B2.three
  obtain ⟨_, _, _, _, _, _, _⟩ := B3.three
  go_wp2
  have B4 := B3.put3 (.int .i64 (lo3 a b c)) (.int .i64 (mi3 a b c)) (.int .i64 (hi3 a b c))
  obtain ⟨_, d0, d1, d2, _, _, _⟩ := B4.three
  exact bodyPost_ret (v := (.agg #[.int .i64 (lo3 a b c), .int .i64 (mi3 a b c), .int .i64 (hi3 a b c)])) (by simp [results, Tryd.results79, go_sem, d0, d1, d2]) rfl ⟨rfl, by repeat (first | with_reducible exact own_refl _ | with_reducible assumption | with_reducible apply own_alloc | with_reducible apply own_drewN | with_reducible apply own_drew | ((with_reducible refine own_setCell ?_ ?_ _); rotate_left; focus (first | (simp; done) | (simp; omega))) | (with_reducible (refine own_trans ?_ (by assumption))))⟩
end Go.Proofs.YtafmfdhogoheaaaDoor
