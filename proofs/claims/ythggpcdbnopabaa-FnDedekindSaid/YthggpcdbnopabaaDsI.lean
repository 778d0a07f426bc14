/- The sum of products of saw teeth, behind its interface: contracts of its methods, of the closure of rests and of their sum. -/
import Derived.Test.YthggpcdbnopabaaLowE
import Derived.Test.YthggpcdbnopabaaRsB
import Derived.Test.YthggpcdbnopabaaDed
namespace Go.Proofs.Ythggpcdbnopabaa
open Go.ChangeShapes Go.WideShapes Go.ChangeAt Go.RowKit

theorem prod_small {h i : Int} (h0 : 0 ≤ h) (h1 : h ≤ 20000) (i0 : 0 ≤ i) (i1 : i ≤ 20000) : 0 ≤ h * i ∧ h * i ≤ 400000000 :=
  ⟨Int.mul_nonneg h0 i0, by have := Int.mul_le_mul h1 i1 i0 (by omega); omega⟩
theorem restClo_is (h k i : Int) (gh gk : Nat) (h0 : 0 ≤ h) (h1 : h < k) (hk : k ≤ 20000) (i0 : 0 ≤ i) (i1 : i < k) (w : World) (c0 : w.cell? ⟨gh, 0, none⟩ = some (.int .i64 h)) (c1 : w.cell? ⟨gk, 0, none⟩ = some (.int .i64 k)) :
    Calls Try.prog 55 #[(.int .i64 i), .pointer (some ⟨gh, 0, none⟩), .pointer (some ⟨gk, 0, none⟩)] w fun e w' => e = .returned (.int .i64 (h * i % k)) ∧ w = w' := by
  obtain ⟨_, _⟩ := prod_small h0 (by omega) i0 (show i ≤ 20000 by omega)
  go_enter Try.func55, Try.ntmps55
  go_wp2
  go_ret
  exact ⟨rfl, rfl⟩
/-- the closure of rests -/
def rfn (gh gk : Nat) : Value := .func (.func 55) #[] #[.pointer (some ⟨gh, 0, none⟩), .pointer (some ⟨gk, 0, none⟩)]
theorem count_is (k : Int) (f : Value) (w : World) :
    Calls Try.prog 74 #[.agg #[(.int .i64 k), f]] w fun e w' => e = .returned (.int .i64 k) ∧ Below w.heap.size w w' := by
  go_enter Try.func74, Try.ntmps74
  go_wp2
  go_ret
  exact ⟨rfl, by repeat (first | with_reducible exact own_refl _ | with_reducible assumption | with_reducible apply own_alloc | with_reducible apply own_drewN | with_reducible apply own_drew | ((with_reducible refine own_setCell ?_ ?_ _); rotate_left; focus (first | (simp; done) | (simp; omega))) | (with_reducible (refine own_trans ?_ (by assumption))))⟩
theorem divisor_is (k : Int) (f : Value) (h0 : 1 ≤ k) (h1 : k ≤ 20000) (w : World) :
    Calls Try.prog 75 #[.agg #[(.int .i64 k), f]] w fun e w' => e = .returned (.int .i64 (4 * (k * k))) ∧ Below w.heap.size w w' := by
  obtain ⟨_, _⟩ := prod_small (show 0 ≤ k by omega) h1 (show 0 ≤ k by omega) h1
  have e4 : 4 * k * k = 4 * (k * k) := Int.mul_assoc _ _ _
  go_enter Try.func75, Try.ntmps75
  go_wp2
  go_ret
  exact ⟨rfl, by repeat (first | with_reducible exact own_refl _ | with_reducible assumption | with_reducible apply own_alloc | with_reducible apply own_drewN | with_reducible apply own_drew | ((with_reducible refine own_setCell ?_ ?_ _); rotate_left; focus (first | (simp; done) | (simp; omega))) | (with_reducible (refine own_trans ?_ (by assumption))))⟩
theorem tth_bd {q r : Int} (h0 : 0 ≤ r) (h1 : r < q) : -q ≤ tth q r ∧ tth q r ≤ q := by unfold tth; split <;> omega
set_option maxRecDepth 100000 in
set_option maxHeartbeats 2000000 in
theorem term_is (h k i : Int) (gh gk : Nat) (h0 : 0 ≤ h) (h1 : h < k) (hk : k ≤ 20000) (i0 : 0 ≤ i) (i1 : i < k) (w : World) (c0 : w.cell? ⟨gh, 0, none⟩ = some (.int .i64 h)) (c1 : w.cell? ⟨gk, 0, none⟩ = some (.int .i64 k)) (l0 : gh < w.heap.size) (l1 : gk < w.heap.size) :
    Calls Try.prog 76 #[.agg #[(.int .i64 k), rfn gh gk], (.int .i64 i)] w fun e w' => e = .returned (.int .i64 (tth k i * tth k (h * i % k))) ∧ Below w.heap.size w w' := by
  have hcf : ∀ (x : Int) (w : World), (callFunc 55 #[.int .i64 x, .pointer (some ⟨gh, 0, none⟩), .pointer (some ⟨gk, 0, none⟩)]).run Try.prog w = .ok (.enter 55 #[.int .i64 x, .pointer (some ⟨gh, 0, none⟩), .pointer (some ⟨gk, 0, none⟩)]) w := fun _ _ => by kernel_rfl
  have r0 : 0 ≤ h * i % k := Int.emod_nonneg _ (by omega)
  have r1 : h * i % k < k := Int.emod_lt_of_pos _ (by omega)
  have HC := Lib.hid (fun (w' : World) (hS : w'.cell? ⟨gh, 0, none⟩ = some (.int .i64 h) ∧ w'.cell? ⟨gk, 0, none⟩ = some (.int .i64 k) ∧ w'.cell? ⟨w.heap.size, 0, none⟩ = some (.int .i64 k) ∧ w'.cell? ⟨w.heap.size, 1, none⟩ = some (.func (.func 55) #[] #[.pointer (some ⟨gh, 0, none⟩), .pointer (some ⟨gk, 0, none⟩)])) => restClo_is h k i gh gk h0 h1 hk i0 i1 w' hS.1 hS.2.1)
  have HA := Lib.hid (fun w => toothOf_any i k i0 i1 (by omega) w)
  have HB := Lib.hid (fun w => toothOf_any (h * i % k) k r0 r1 (by omega) w)
  obtain ⟨_, _⟩ := tth_bd i0 i1
  obtain ⟨_, _⟩ := tth_bd r0 r1
  obtain ⟨_, _⟩ := Dd.mul_bd (x := tth k i) (y := tth k (h * i % k)) (K := 20000) (by omega) (by omega) (by omega) (by omega) (by omega)
  have hne0 : gh ≠ w.heap.size := Nat.ne_of_lt l0
  have hne1 : gk ≠ w.heap.size := Nat.ne_of_lt l1
  unfold rfn
  generalize h * i % k = r at *
  have hw : IntKind.i64.wrap (tth k i * tth k r) = tth k i * tth k r := IntWalk.i64_in _ (by omega)
  go_enter Try.func76, Try.ntmps76
  go_wp2_with fail
  go_region_held3 (fun w' => w'.cell? ⟨gh, 0, none⟩ = some (.int .i64 h) ∧ w'.cell? ⟨gk, 0, none⟩ = some (.int .i64 k) ∧ w'.cell? ⟨w.heap.size, 0, none⟩ = some (.int .i64 k) ∧ w'.cell? ⟨w.heap.size, 1, none⟩ = some (.func (.func 55) #[] #[.pointer (some ⟨gh, 0, none⟩), .pointer (some ⟨gk, 0, none⟩)])) (go_keep)
    (first
      | (go_at_call 43; with_reducible refine (HB.out _).mono ?_; rintro e w' ⟨rfl, rfl⟩)
      | (go_at_call 43; with_reducible refine (HA.out _).mono ?_; rintro e w' ⟨rfl, rfl⟩)
      | (go_at_call 55; refine (HC.out _ (by assumption)).mono ?_; rintro e w' ⟨rfl, rfl⟩))
  go_wp2
  go_ret
  exact ⟨rfl, by repeat (first | with_reducible exact own_refl _ | with_reducible assumption | with_reducible apply own_alloc | with_reducible apply own_drewN | with_reducible apply own_drew | ((with_reducible refine own_setCell ?_ ?_ _); rotate_left; focus (first | (simp; done) | (simp; omega))) | (with_reducible (refine own_trans ?_ (by assumption))))⟩
end Go.Proofs.Ythggpcdbnopabaa
