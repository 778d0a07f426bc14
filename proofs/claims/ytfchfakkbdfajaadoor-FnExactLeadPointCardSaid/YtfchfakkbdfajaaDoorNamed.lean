/- impl.namedMatrices: contract. -/
import Derived.Test.YtfchfakkbdfajaaDoorMapM
import Derived.Test.YtfchfakkbdfajaaDoorMxS
import Derived.Test.YtfchfakkbdfajaaDoorPA
namespace Go.Proofs.YtfchfakkbdfajaaDoor
open Go.ChangeShapes Go.WideShapes Go.ChangeAt Go.RowKit

theorem str_keyed : Maps.Keyed Tryd.prog 9 := Maps.string_keyed Tryd.underlying9
theorem str_key (s : ByteArray) (hs : s.size ≤ maxLen) : keyOf Tryd.prog 9 (.string s) = some (.string s.data.toList) := WideMaps.keyOf_string_mk Tryd.underlying9 hs
open Classical in
/-- The matrices with names. -/
noncomputable def namedF (x : Lit) : Option Mat :=
  if x = .string [73] then some ⟨1, 0, 0, 1⟩ else if x = .string [85] then some ⟨1, -1, 1, 0⟩ else if x = .string [76] then some ⟨1, 0, 1, 1⟩ else
  if x = .string [84] then some ⟨1, 1, 0, 1⟩ else if x = .string [83] then some ⟨0, -1, 1, 0⟩ else none

set_option maxRecDepth 100000 in
set_option maxHeartbeats 2000000 in
theorem named_any (w : World) (hid : Idn w) (hmx : MxS w) :
    Calls Tryd.prog 56 #[] w fun e w' => e = .returned (.map (some w.heap.size)) ∧ LMn w' 80 9 w.heap.size namedF 5 ∧ Below w.heap.size w w' := by
  have hmm := @run_makeMap Tryd.prog
  have l0 := LMn.made w 80 9 Tryd.underlying80
  have T0 : Below w.heap.size w (w.alloc (.map #[] 0)) := by repeat (first | with_reducible exact own_refl _ | with_reducible assumption | with_reducible apply own_alloc | with_reducible apply own_drewN | with_reducible apply own_drew | ((with_reducible refine own_setCell ?_ ?_ _); rotate_left; focus (first | (simp; done) | (simp; omega))) | (with_reducible (refine own_trans ?_ (by assumption))))
  obtain ⟨w1, r1, l1, g1⟩ := l0.put str_keyed (by omega) (.string ⟨#[83]⟩) (.string [83]) ⟨0, -1, 1, 0⟩ (str_key _ (by decide)) trivial
  have T1 := below_put T0 (Nat.le_refl _) g1 (by simp)
  obtain ⟨w2, r2, l2, g2⟩ := l1.put str_keyed (by omega) (.string ⟨#[84]⟩) (.string [84]) ⟨1, 1, 0, 1⟩ (str_key _ (by decide)) trivial
  have T2 := below_put T1 (Nat.le_refl _) g2 T1.size
  obtain ⟨w3, r3, l3, g3⟩ := l2.put str_keyed (by omega) (.string ⟨#[76]⟩) (.string [76]) ⟨1, 0, 1, 1⟩ (str_key _ (by decide)) trivial
  have T3 := below_put T2 (Nat.le_refl _) g3 T2.size
  obtain ⟨w4, r4, l4, g4⟩ := l3.put str_keyed (by omega) (.string ⟨#[85]⟩) (.string [85]) ⟨1, -1, 1, 0⟩ (str_key _ (by decide)) trivial
  have T4 := below_put T3 (Nat.le_refl _) g4 T3.size
  obtain ⟨w5, r5, l5, g5⟩ := l4.put str_keyed (by omega) (.string ⟨#[73]⟩) (.string [73]) ⟨1, 0, 0, 1⟩ (str_key _ (by decide)) trivial
  have T5 := below_put T4 (Nat.le_refl _) g5 T4.size
  obtain ⟨_, _, _, _, _⟩ := Rd.four (Rd.below hmx T0)
  obtain ⟨_, _, _, _, _⟩ := Rd.four (Rd.below hid T4)
  simp only [matV] at r1 r2 r3 r4 r5
  have L5 := Lib.hid l5
  have H5 := Lib.hid T5
  clear l0 l1 l2 l3 l4 l5 g1 g2 g3 g4 g5 T0 T1 T2 T3 T4 T5 hid hmx
  go_enter Tryd.func56, Tryd.ntmps56
  go_wp2
  go_ret
  exact ⟨rfl, L5.out, H5.out⟩
end Go.Proofs.YtfchfakkbdfajaaDoor
