/- MatrixOfChain: both sides over a slice, and the law's walk. -/
import Derived.Test.YteknmpnkjoopfaaDoorMocI
import Derived.Test.YteknmpnkjoopfaaDoorMocS
import Derived.Test.YteknmpnkjoopfaaDoorLoMatrixOfChain
namespace Go.Proofs.YteknmpnkjoopfaaDoor
open Go.ChangeShapes Go.WideShapes Go.ChangeAt Go.RowKit

theorem sl_open {w : World} {L U : Nat} {v : Value} {xs : List Int} (h : Sl w L U v xs) : ∃ a cap, v = .slice a xs.length cap ∧ (0 < xs.length → ∃ g off, a = some ⟨g, off, none⟩ ∧ g < w.heap.size ∧ ∀ k, k < xs.length → w.cell? ⟨g, off + k, none⟩ = some (.int .i64 (xs.getD k 0))) := by
  obtain ⟨hu, a, cap, rfl, hc⟩ := h
  refine ⟨a, cap, rfl, fun h0 => ?_⟩
  obtain ⟨g, off, rfl, _, hg, r⟩ := hc h0
  exact ⟨g, off, rfl, Nat.lt_of_lt_of_le hg hu, fun k hk => (r k hk).1⟩
theorem sl_cap {w : World} {L U : Nat} {v : Value} {xs : List Int} (h : Sl w L U v xs) (hk : ∃ a, v = .slice a xs.length xs.length) (h0 : 0 < xs.length) :
    ∃ g off, v = .slice (some ⟨g, off, none⟩) xs.length xs.length ∧ g < w.heap.size ∧ ∀ k, k < xs.length → w.cell? ⟨g, off + k, none⟩ = some (.int .i64 (xs.getD k 0)) := by
  obtain ⟨a, rfl⟩ := hk
  obtain ⟨a', c, he, ho⟩ := sl_open h
  injection he with h1 h2 h3
  obtain ⟨g, off, h4, hg, hc⟩ := ho h0
  exact ⟨g, off, by rw [h1, h4], hg, hc⟩
set_option maxRecDepth 100000 in
theorem implMoc_ok (s : Int) (hs : s = 1 ∨ s = -1) (b off : Nat) (xs : List Int) (h1 : 1 ≤ xs.length) (hn : xs.length ≤ 100) (hent : allW xs 1000000000 = true) (r : Mat) (kd : Int) (hPA : PA (chPre s xs xs.length) r kd) (w : World) (hid : Idn w) (hmx : MxS w)
    (hb : b < w.heap.size) (hc : ∀ k, k < xs.length → w.cell? ⟨b, off + k, none⟩ = some (.int .i64 (xs.getD k 0))) :
    Calls Tryd.prog 24 #[(.int .i64 s), .slice (some ⟨b, off, none⟩) xs.length xs.length] w (RetM r kd w) := by
  obtain ⟨m, hm⟩ : ∃ m, xs.length = m + 1 := ⟨xs.length - 1, by omega⟩
  rcases Nat.eq_zero_or_pos m with h0 | h0
  · subst h0
    obtain ⟨x0, rfl⟩ := List.length_eq_one_iff.1 hm
    exact implMoc_one s hs b off x0 (by simpa using allW_ent hent 0) r kd hPA w hid hb (by simpa using hc 0 (by simp))
  · rw [hm] at hPA ⊢
    exact implMoc_many s hs b off m xs h0 hm (by omega) hent r kd hPA w hid hmx hb hc
theorem lawMatrixOfChain_walk (s : Int) (xs : List Int) (ad : Option Addr) (cap : Nat) (w : World) (_ : I64 s) (hr : Rs w ad xs) (_ : ∀ x ∈ xs, I64 x) (hn : xs.length ≤ 9223372036854775807) (hmx : MxS w) (hid : Idn w) :
    Calls Tryd.prog 5 #[(.int .i64 s), .slice ad xs.length cap] w fun e w' => e = .returned (.bool true) ∧ Below w.heap.size w w' := by
  by_cases h1 : xs.length ≤ 1048576
  · by_cases hs : s = 1 ∨ s = -1
    · by_cases h2 : xs.length < 1 ∨ 100 < xs.length
      · refine lawMatrixOfChain_of s xs ad cap 0 0 0 0 2 h1 (fun v L U w hS _ => ?_) (fun v L U w hS _ _ _ => ?_) w hr hid hmx
        · obtain ⟨a, c, rfl, _⟩ := sl_open hS
          exact specMoc_len s hs a _ c h2 h1 w
        · obtain ⟨a, c, rfl, _⟩ := sl_open hS
          exact implMoc_len s hs a _ c h2 h1 w
      · have h3 : 1 ≤ xs.length := by omega
        have h4 : xs.length ≤ 100 := by omega
        rcases hent : allW xs 1000000000 with _ | _
        · refine lawMatrixOfChain_of s xs ad cap 0 0 0 0 2 h1 (fun v L U w hS hk => ?_) (fun v L U w hS hk _ _ => ?_) w hr hid hmx
          · obtain ⟨g, off, rfl, hg, hc⟩ := sl_cap hS hk h3
            exact specMoc_ent s hs g off _ xs h3 h4 hent w hg hc
          · obtain ⟨g, off, rfl, hg, hc⟩ := sl_cap hS hk h3
            exact implMoc_ent s hs g off _ xs h3 h4 hent w hg hc
        · obtain ⟨r, kd, hPA⟩ := PA.any (chPre s xs xs.length)
          refine lawMatrixOfChain_of s xs ad cap r.a r.b r.c r.d kd h1 (fun v L U w hS hk => ?_) (fun v L U w hS hk hI hM => ?_) w hr hid hmx
          · obtain ⟨g, off, rfl, hg, hc⟩ := sl_cap hS hk h3
            exact specMoc_some s hs g off _ xs h3 h4 hent r kd hPA w hg hc
          · obtain ⟨g, off, rfl, hg, hc⟩ := sl_cap hS hk h3
            exact implMoc_ok s hs g off xs h3 h4 hent r kd hPA w hI hM hg hc
    · refine lawMatrixOfChain_of s xs ad cap 0 0 0 0 2 h1 (fun v L U w hS _ => ?_) (fun v L U w hS _ _ _ => ?_) w hr hid hmx
      · obtain ⟨a, c, rfl, _⟩ := sl_open hS
        exact specMoc_sign s hs a _ c w
      · obtain ⟨a, c, rfl, _⟩ := sl_open hS
        exact implMoc_sign s hs a _ c w
  · exact lawMatrixOfChain_long s xs ad cap h1 hn w
end Go.Proofs.YteknmpnkjoopfaaDoor
