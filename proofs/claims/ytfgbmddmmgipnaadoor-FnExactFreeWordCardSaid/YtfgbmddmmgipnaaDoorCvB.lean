/- Bytes that a call made by append: their numbers, their text; making room for them. -/
import Derived.Test.YtfgbmddmmgipnaaDoorGrB
namespace Go.Proofs.YtfgbmddmmgipnaaDoor
open Go.ChangeShapes Go.WideShapes Go.ChangeAt Go.RowKit

def nums (l : List UInt8) : List Int := l.map fun b => (b.toNat : Int)
/-- the conversion of bytes that a call made by append -/
theorem conv_gr {w : World} {L : Nat} {v : Value} {l : List UInt8} (h : GrB w L v (nums l)) : (convert 63 9 v).run Tryd.prog w = .ok (.string ⟨l.toArray⟩) w := by
  have hlen : (nums l).length = l.length := by simp [nums]
  obtain ⟨hl, ⟨rfl, h0⟩ | ⟨g, cap, cur, rfl, hg, hh, hn, _, hsz, ht⟩⟩ := h
  · have : l = [] := List.eq_nil_of_length_eq_zero (by rw [← hlen]; exact h0)
    subst this
    have := run_convert_bytes_string (P := Tryd.prog) w 63 9 5 none 0 0 Tryd.underlying63 Tryd.underlying5 Tryd.underlying9
    rw [this]
    rfl
  · rw [hlen]
    refine run_convert_bytes_back (P := Tryd.prog) w 63 9 5 ⟨g, 0, none⟩ cap l Tryd.underlying63 Tryd.underlying5 Tryd.underlying9 fun j hj => ?_
    have hc : cur.toList[j]? = some (.int .u8 (l[j].toNat : Int)) := by
      have h1 : (cur.toList.take ((nums l).length * 1))[j]? = ((nums l).map fun x => Value.int .u8 x)[j]? := by rw [ht]
      rw [List.getElem?_take_of_lt (by omega)] at h1
      rw [h1]
      simp [nums, List.getElem?_eq_getElem hj]
    have hc' : cur[j]? = some (.int .u8 (l[j].toNat : Int)) := by rw [← Array.getElem?_toList]; exact hc
    rw [show (⟨g, 0, none⟩ : Addr).add j = ⟨g, j, none⟩ by unfold Addr.add; split <;> simp_all]
    simp [World.cell?, hh, hc']
theorem makeB0 (n : Nat) (hn : n ≤ 1000000) : ∃ cur : Array Value, cur.size = n ∧ ∀ w : World, (Instr.makeSlice 63 (.int .i64 0) (.int .i64 (n : Int))).run Tryd.prog w =
    .ok (.slice (some ⟨w.heap.size, 0, none⟩) 0 n) (w.alloc (.cells cur 5)) := by
  obtain ⟨i0, hi, hz0, hz1, hz2⟩ := info_parts info_u8
  refine ⟨madeCells (Value.int .u8 0).cells (n * 1), by rw [size_madeCells]; simp, fun w => ?_⟩
  have h := run_make (P := Tryd.prog) (w := w) 63 5 i0 (.int .u8 0) Tryd.underlying63 hi hz0 .i64 .i64 0 (n : Int) (by omega) (by omega) (by rw [hz2]; omega) (by omega)
  have e : ((n : Int)).toNat = n := by omega
  rw [e] at h
  rw [h, hz1]
  rfl
theorem GrB.madeCap {w : World} {L g n : Nat} {cur : Array Value} (hg : w.heap.size = g) (hL : L ≤ g) (hc : cur.size = n) (hn : n ≤ 1000000) : GrB (w.alloc (.cells cur 5)) L (.slice (some ⟨g, 0, none⟩) 0 n) [] := by
  subst hg
  exact World.ownsRow_made w cur n hL (by unfold maxLen; omega) (by omega)
end Go.Proofs.YtfgbmddmmgipnaaDoor
