/- A desk among the arguments, opened and shut: a struct of four integers, of two, and one. -/
import Derived.Test.YtdcomnnpnhinfaaOpen
import Derived.Deep.Strs
namespace Go.Proofs.Ytdcomnnpnhinfaa
open Go.ChangeShapes Go.WideShapes Go.ChangeAt Go.RowKit

section
variable {H : Type} {enc : TypeId × Value → H} {W : World} {base b0 : Nat} {sp : Nat → Bool} {hd : Bool}
theorem openI {fuel : Nat} {c : Value} {y : DataW H × List MemPlace} (hf : DataW.trod enc Try.prog W base sp hd fuel 2 [c] = some y) :
    ∃ x : Int, c = (.int .i64 x) ∧ y = (.lit (.int .i64 x), []) ∧ (Lit.int .i64 x).wf = true := by
  obtain ⟨x0, e0, rfl, w0⟩ := DataW.trod_int Try.underlying2 hf
  simp at e0
  exact ⟨x0, e0, rfl, w0⟩
set_option maxRecDepth 100000 in
theorem open4c {fuel : Nat} {c0 c1 c2 c3 : Value} {y : DataW H × List MemPlace} (hf : DataW.trod enc Try.prog W base sp hd fuel 22 [c0, c1, c2, c3] = some y) :
    ∃ a b c e : Int, c0 = (.int .i64 a) ∧ c1 = (.int .i64 b) ∧ c2 = (.int .i64 c) ∧ c3 = (.int .i64 e) ∧ y = (.agg [.lit (.int .i64 a), .lit (.int .i64 b), .lit (.int .i64 c), .lit (.int .i64 e)], []) ∧
      (Lit.int .i64 a).wf = true ∧ (Lit.int .i64 b).wf = true ∧ (Lit.int .i64 c).wf = true ∧ (Lit.int .i64 e).wf = true := by
  obtain ⟨y0, y1, y2, y3, m, hx, hy0, hy1, hy2, hy3⟩ := trod_array4 Try.underlying22 cells_i64 hf
  obtain ⟨x0, e0, rfl, w0⟩ := openI hy0
  obtain ⟨x1, e1, rfl, w1⟩ := openI hy1
  obtain ⟨x2, e2, rfl, w2⟩ := openI hy2
  obtain ⟨x3, e3, rfl, w3⟩ := openI hy3
  exact ⟨x0, x1, x2, x3, e0, e1, e2, e3, hx, w0, w1, w2, w3⟩
set_option maxRecDepth 100000 in
theorem open2c {fuel : Nat} {c0 c1 : Value} {y : DataW H × List MemPlace} (hf : DataW.trod enc Try.prog W base sp hd fuel 24 [c0, c1] = some y) :
    ∃ a b : Int, c0 = (.int .i64 a) ∧ c1 = (.int .i64 b) ∧ y = (.agg [.lit (.int .i64 a), .lit (.int .i64 b)], []) ∧ (Lit.int .i64 a).wf = true ∧ (Lit.int .i64 b).wf = true := by
  obtain ⟨y0, y1, m, hx, hy0, hy1⟩ := trod_array2' Try.underlying24 cells_i64 hf
  obtain ⟨x0, e0, rfl, w0⟩ := openI hy0
  obtain ⟨x1, e1, rfl, w1⟩ := openI hy1
  exact ⟨x0, x1, e0, e1, hx, w0, w1⟩
theorem cells_desk : Try.prog.cellsOf 32 = 7 := by kernel_rfl
set_option maxRecDepth 100000 in
theorem openD {r : Reach} {v : Value} {d : DataW H} {p : List MemPlace} (hv : Value.okWide Try.prog W r b0 32 v) (h : DataW.Trod enc Try.prog W base sp hd 32 v d p) :
    ∃ a b c e x y n : Int, v = .agg #[(.int .i64 a), (.int .i64 b), (.int .i64 c), (.int .i64 e), (.int .i64 x), (.int .i64 y), (.int .i64 n)] ∧ d = .agg [.agg [.lit (.int .i64 a), .lit (.int .i64 b), .lit (.int .i64 c), .lit (.int .i64 e)], .agg [.lit (.int .i64 x), .lit (.int .i64 y)], .lit (.int .i64 n)] ∧ p = [] ∧
      ((Lit.int .i64 a).wf = true ∧ (Lit.int .i64 b).wf = true ∧ (Lit.int .i64 c).wf = true ∧ (Lit.int .i64 e).wf = true ∧ (Lit.int .i64 x).wf = true ∧ (Lit.int .i64 y).wf = true ∧ (Lit.int .i64 n).wf = true) := by
  obtain ⟨cs, rfl, hsz⟩ := okWide_struct Try.underlying32 hv
  rw [cells_desk] at hsz
  obtain ⟨l, rfl⟩ : ∃ l : List Value, cs = l.toArray := ⟨cs.toList, by simp⟩
  simp at hsz
  match l, hsz with
  | [c0, c1, c2, c3, c4, c5, c6], _ =>
    obtain ⟨fuel, hf⟩ := h
    obtain ⟨y0, y1, y2, n, hx, _, h0, h1, h2⟩ := Deep.trod_struct3 Try.underlying32 hf
    simp only [Value.cells, cells_arr4, cells_arr2, cells_i64] at h0 h1 h2
    obtain ⟨a, b, c, e, rfl, rfl, rfl, rfl, rfl, wa, wb, wc, we⟩ := open4c (by simpa using h0)
    obtain ⟨x, y, rfl, rfl, rfl, wx, wy⟩ := open2c (by simpa using h1)
    obtain ⟨z, rfl, rfl, wz⟩ := openI (by simpa using h2)
    simp only [Prod.mk.injEq] at hx
    obtain ⟨rfl, rfl⟩ := hx
    exact ⟨a, b, c, e, x, y, z, rfl, rfl, rfl, wa, wb, wc, we, wx, wy, wz⟩
set_option maxRecDepth 100000 in
theorem shutD {a b c e x y n : Int} (h : (Lit.int .i64 a).wf = true ∧ (Lit.int .i64 b).wf = true ∧ (Lit.int .i64 c).wf = true ∧ (Lit.int .i64 e).wf = true ∧ (Lit.int .i64 x).wf = true ∧ (Lit.int .i64 y).wf = true ∧ (Lit.int .i64 n).wf = true) :
    DataW.Trod enc Try.prog W base sp hd 32 (.agg #[(.int .i64 a), (.int .i64 b), (.int .i64 c), (.int .i64 e), (.int .i64 x), (.int .i64 y), (.int .i64 n)]) (DataW.agg [.agg [.lit (.int .i64 a), .lit (.int .i64 b), .lit (.int .i64 c), .lit (.int .i64 e)], .agg [.lit (.int .i64 x), .lit (.int .i64 y)], .lit (.int .i64 n)]) [] := by
  obtain ⟨w0, w1, w2, w3, w4, w5, w6⟩ := h
  exact ⟨3, by simp [DataW.trod, Value.cells, Try.underlying32, Try.underlying22, Try.underlying24, Try.underlying2, cells_desk, cells_arr4, cells_arr2, cells_i64, w0, w1, w2, w3, w4, w5, w6, show List.range 4 = [0, 1, 2, 3] from rfl, show List.range 2 = [0, 1] from rfl]⟩
end
end Go.Proofs.Ytdcomnnpnhinfaa
