/- impl.RelationsOf: contract. -/
import Derived.Test.YtdcomnnpnhinfaaDoorFlt
import Derived.Test.YtdcomnnpnhinfaaDoorLvC
namespace Go.Proofs.YtdcomnnpnhinfaaDoor
open Go.ChangeShapes Go.WideShapes Go.ChangeAt Go.RowKit

theorem Mixes.nil (w : World) (xss : Nat → List Int) : Mixes w (.slice none 0 0) 0 (fun _ => .slice none 0 0) xss := ⟨⟨Option.none, 0, rfl, fun h => by omega⟩, fun k h => by omega⟩
theorem mxC_0 (n : Int) (xss : Nat → List Int) : mxC n 0 xss = lvC n := by
  unfold mxC
  split
  · rename_i h; rw [h]; rfl
  · rfl
theorem ledS_at {n : Int} {k : Nat} (hk : k < (ln n).length) : (ledL n 0 (-1) 1 0 (ln n)).getD k 0 = (kS n k : Int) := by
  rw [ledL_at n 0 (-1) 1 0 hk]
  unfold kS
  congr 2 <;> omega
theorem ledU_at {n : Int} {k : Nat} (hk : k < (ln n).length) : (ledL n 1 (-1) 1 0 (ln n)).getD k 0 = (kU n k : Int) := by
  rw [ledL_at n 1 (-1) 1 0 hk]
  unfold kU
  congr 2 <;> omega
/-- rows that are made so far -/
def relP (n : Int) (N k j : Nat) : List Int := if j < k ∨ (N ≤ j ∧ j < N + k) then rel n N j else zer N
theorem relP_len (n : Int) (N k j : Nat) : (relP n N k j).length = N := by
  unfold relP
  split
  · exact rel_len _ _ _
  · simp [zer]
theorem relP_step {n : Int} {N k : Nat} (hk : k < N) (j : Nat) :
    (if j = N + k then addS ((fun q => if q = k then addS (relP n N k k) 0 [k, kS n k] else relP n N k q) (N + k)) 0 [k, kU n k, kV n k] else (fun q => if q = k then addS (relP n N k k) 0 [k, kS n k] else relP n N k q) j) = relP n N (k + 1) j := by
  have e1 : relP n N k k = zer N := by unfold relP; rw [if_neg (by omega)]
  have e2 : relP n N k (N + k) = zer N := by unfold relP; rw [if_neg (by omega)]
  by_cases h1 : j = N + k
  · subst h1
    rw [if_pos rfl]
    dsimp only
    rw [if_neg (by omega), e2]
    unfold relP rel
    rw [if_pos (by omega), if_neg (by omega), show N + k - N = k by omega]
    rfl
  · rw [if_neg h1]
    dsimp only
    by_cases h2 : j = k
    · subst h2
      rw [if_pos rfl, e1]
      unfold relP rel
      rw [if_pos (by omega), if_pos hk]
      rfl
    · rw [if_neg h2]
      unfold relP
      by_cases h3 : j < k ∨ (N ≤ j ∧ j < N + k)
      · rw [if_pos h3, if_pos (by omega)]
      · rw [if_neg h3, if_neg (by omega)]
theorem slice_to (h M N cap : Nat) (h1 : N ≤ M) (h2 : M ≤ cap) (w : World) : Sem.run Tryd.prog (Instr.slice 49 (.slice (some ⟨h, 0, none⟩) M cap) none (some (.int .i64 (N : Int))) none) w = .ok (.slice (some ⟨h, 0, none⟩) N cap) w := by
  have h3 : N ≤ cap := by omega
  simp [Instr.slice, Instr.sliceBounds, Instr.sliceBound, asIntOf, go_sem, h3]
theorem slice_from (h M N cap R : Nat) (h1 : N < M) (h2 : M ≤ cap) (hR : M - N = R) (w : World) : Sem.run Tryd.prog (Instr.slice 49 (.slice (some ⟨h, 0, none⟩) M cap) (some (.int .i64 (N : Int))) none none) w = .ok (.slice (some ⟨h, N, none⟩) R (cap - N)) w := by
  have h3 : N ≤ M := by omega
  have h4 : cap ≠ N := by omega
  simp [Instr.slice, Instr.sliceBounds, Instr.sliceBound, asIntOf, go_sem, h3, h4, hR]
theorem Flat.cap {w : World} {L g N M h cap : Nat} {xs : List Int} (hF : Flat w L (.slice (some ⟨h, 0, none⟩) M cap) g N M xs) : M ≤ cap := by
  obtain ⟨_, ⟨e, h0⟩ | ⟨b, cp, cur, e, h1, h2, h3, _⟩⟩ := hF.rows
  · cases e
  · injection e with _ _ e
    omega

theorem RowsF.bd {xs : List Int} {N M : Nat} {f : Nat → List Int} {B : Int} (h : RowsF xs N M f) (hl : xs.length = M * N) (hB : 0 ≤ B) (hf : ∀ j, j < M → ∀ i, i < N → 0 ≤ (f j).getD i 0 ∧ (f j).getD i 0 ≤ B) : ∀ q, 0 ≤ xs.getD q 0 ∧ xs.getD q 0 ≤ B := by
  intro q
  by_cases hq : q < M * N
  · have hN : 0 < N := by
      rcases Nat.eq_zero_or_pos N with e | e
      · rw [e, Nat.mul_zero] at hq; omega
      · exact e
    have e := Nat.div_add_mod q N
    rw [Nat.mul_comm] at e
    have hj : q / N < M := (Nat.div_lt_iff_lt_mul hN).2 hq
    have hi := Nat.mod_lt q hN
    have := hf _ hj _ hi
    rw [← h _ hj _ hi, e] at this
    exact this
  · have : xs.getD q 0 = 0 := by simp [List.getD, List.getElem?_eq_none (show xs.length ≤ q by omega)]
    rw [this]
    omega
theorem relP_bd (n : Int) (N k j q : Nat) (h1 : ∀ i, i < N → kS n i < N ∧ kU n i < N ∧ kV n i < N) (hj : j < N + N) : 0 ≤ (relP n N k j).getD q 0 ∧ (relP n N k j).getD q 0 ≤ 100 := by
  unfold relP
  split
  · have := rel_bd n N j q h1 hj
    omega
  · rw [zer_get]
    omega
theorem grown_weak {w w' : World} {row : Option Nat} (h : w.grownBy w' none) : w.grownBy w' row := ⟨h.os, h.tape, h.output, h.size, fun k hk _ => h.block k hk (by simp)⟩
theorem grown_cell {w w' : World} {g b o : Nat} (h : w.grownBy w' (some g)) (hb : b < w.heap.size) (hne : b ≠ g) : w'.cell? ⟨b, o, Option.none⟩ = w.cell? ⟨b, o, Option.none⟩ :=
  World.cell?_of_block (a := ⟨b, o, Option.none⟩) (h.block b hb (fun e => by injection e with e; exact hne e))
theorem Flat.weak {w : World} {L L' g N M : Nat} {v : Value} {xs : List Int} (h : Flat w L v g N M xs) (hL : L' ≤ L) : Flat w L' v g N M xs := ⟨ownsRow_weakZ h.rows hL, ownsRow_weakZ h.flat hL, h.len⟩
theorem Flat.rowsAt {w : World} {L g N M h0 cap : Nat} {xs : List Int} (h : Flat w L (.slice (some ⟨h0, 0, Option.none⟩) M cap) g N M xs) (hM : 0 < M) : h0 < w.heap.size ∧ ∀ k, k < M → w.cell? ⟨h0, k, Option.none⟩ = some (rowV g N k) := by
  obtain ⟨_, _, e, _, h2, _, h3⟩ := h.shape hM
  injection e with e _ _
  injection e with e
  injection e with e
  subst e
  exact ⟨h2, h3⟩
/-- What RelationsOf gives. -/
def RetFl (N M : Nat) (f : Nat → List Int) (w : World) (e : Ending) (w' : World) : Prop :=
  ∃ v g xs, e = .returned (.tuple #[v, (.int .i64 0)]) ∧ Flat w' w.heap.size v g N M xs ∧ RowsF xs N M f ∧ Below w.heap.size w w'
end Go.Proofs.YtdcomnnpnhinfaaDoor
