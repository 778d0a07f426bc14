/- A struct of two slices of integers among the arguments, opened. -/
import Derived.Test.YtfchfakkbdfajaaDoorOpen
import Derived.Test.YtfchfakkbdfajaaDoorToS
namespace Go.Proofs.YtfchfakkbdfajaaDoor
open Go.ChangeShapes Go.WideShapes Go.ChangeAt Go.RowKit

section
variable {H : Type} {enc : TypeId × Value → H} {W : World} {b0 : Nat}
set_option maxRecDepth 100000 in
theorem openLc {fuel : Nat} {c : Value} {y : DataW H × List MemPlace} (hf : DataW.trod enc Tryd.prog W 0 (fun _ => true) true fuel 22 [c] = some y) (hlt : ∀ x ∈ y.2, x.block < W.heap.size) :
    ∃ (xs : List Int) (a : Option Addr) (cap : Nat), c = .slice a xs.length cap ∧ Rs W a xs ∧ (∀ x ∈ xs, I64 x) ∧ xs.length ≤ 9223372036854775807 := by
  rcases open_ints Tryd.underlying22 Tryd.underlying2 cells_i64' hf with ⟨hcs, hx⟩ | ⟨a, len', cap', zs, hcs, _, hl, hm, hz, hx, hcell, hwz⟩
  · simp at hcs
    subst hcs
    exact ⟨[], none, 0, rfl, fun h => absurd h (by simp), fun x hx => by simp at hx, by simp⟩
  · simp at hcs
    subst hcs
    subst hx
    simp only [if_true] at hz
    have hlen : (zs.take len').length = len' := by rw [List.length_take]; omega
    refine ⟨zs.take len', some a, cap', by rw [hlen], fun h0 => ?_, fun x hx => i64_of_wf (hwz x (List.mem_of_mem_take hx)), ?_⟩
    · obtain ⟨b, off, spot⟩ := a
      have hspot : spot = none := by simpa [Addr.add] using World.cell?_spot (hcell 0 (by omega))
      subst hspot
      refine ⟨b, off, rfl, hlt (.cell b off) (MemPlace.mem_row.2 ⟨0, by omega, by simp⟩), fun k hk => ?_⟩
      have := hcell k (by omega)
      rw [add_plain] at this
      rw [this, List.getD, List.getD, List.getElem?_take_of_lt (by omega)]
    · have : cap' ≤ 9223372036854775807 := hm
      omega
theorem cells_act : Tryd.prog.cellsOf 24 = 2 := by kernel_rfl
theorem cells_sl : Tryd.prog.cellsOf 22 = 1 := by kernel_rfl
set_option maxRecDepth 100000 in
theorem openA {r : Reach} {v : Value} {d : DataW H} {p : List MemPlace} (hv : Value.okWide Tryd.prog W r b0 24 v)
    (h : DataW.Trod enc Tryd.prog W 0 (fun _ => true) true 24 v d p) (hlt : ∀ x ∈ p, x.block < W.heap.size) :
    ∃ (s t : List Int) (a b : Option Addr) (ca cb : Nat), v = .agg #[.slice a s.length ca, .slice b t.length cb] ∧ Rs W a s ∧ Rs W b t ∧ (∀ x ∈ s, I64 x) ∧ (∀ x ∈ t, I64 x) ∧ s.length ≤ 9223372036854775807 ∧ t.length ≤ 9223372036854775807 := by
  obtain ⟨cs, rfl, hsz⟩ := okWide_struct Tryd.underlying24 hv
  obtain ⟨c0, c1, rfl⟩ := Joins.array2 (hsz.trans cells_act)
  obtain ⟨fuel, hf⟩ := h
  obtain ⟨y0, y1, n, hx, _, h0, h1⟩ := trod_struct2 Tryd.underlying24 hf
  simp only [Prod.mk.injEq] at hx
  obtain ⟨rfl, rfl⟩ := hx
  simp only [Value.cells, cells_sl] at h0 h1
  obtain ⟨s, a, ca, e0, r0, w0, n0⟩ := openLc (c := c0) (by simpa using h0) (fun x hx => hlt x (List.mem_append_left _ hx))
  obtain ⟨t, b, cb, e1, r1, w1, n1⟩ := openLc (c := c1) (by simpa using h1) (fun x hx => hlt x (List.mem_append_right _ hx))
  subst e0 e1
  exact ⟨s, t, a, b, ca, cb, rfl, r0, r1, w0, w1, n0, n1⟩
end
end Go.Proofs.YtfchfakkbdfajaaDoor
