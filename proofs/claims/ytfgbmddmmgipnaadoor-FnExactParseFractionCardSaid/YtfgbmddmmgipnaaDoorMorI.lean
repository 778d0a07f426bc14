/- impl.MatrixOfRuns: contract (begun). -/
import Derived.Test.YtfgbmddmmgipnaaDoorMkA
import Derived.Test.YtfgbmddmmgipnaaDoorAr
import Derived.Test.YtfgbmddmmgipnaaDoorRunI
import Derived.Test.YtfgbmddmmgipnaaDoorPA
namespace Go.Proofs.YtfgbmddmmgipnaaDoor
open Go.ChangeShapes Go.WideShapes Go.ChangeAt Go.RowKit

/-- The matrices of a list of runs, from the i-th on. -/
def runMats : Nat → List Int → List Mat
  | _, [] => []
  | i, x :: r => (if i % 2 = 1 then ⟨1, 0, x, 1⟩ else ⟨1, x, 0, 1⟩) :: runMats (i + 1) r
theorem runMats_len (xs : List Int) : ∀ i, (runMats i xs).length = xs.length := by
  induction xs with
  | nil => intro i; rfl
  | cons x r ih => intro i; simp [runMats, ih]
/-- the flat numbers of matrices -/
def flat (ms : List Mat) : List Int := ms.flatMap fun m => [m.a, m.b, m.c, m.d]
theorem flat_cells (ms : List Mat) : (flat ms).map (Value.int .i64) = matCells ms := by
  induction ms with
  | nil => rfl
  | cons m r ih => simp only [flat, matCells, List.flatMap_cons, List.map_append] at *; rw [ih]; rfl
theorem runMats_is (xs : List Int) : ∀ i, okFrom i xs = true → (runMats i xs).all Mat.is = true := by
  induction xs with
  | nil => intro i _; rfl
  | cons x r ih =>
    intro i h
    simp only [okFrom, Bool.and_eq_true] at h
    have hx := of_decide_eq_true h.1
    simp only [runMats, List.all_cons, ih _ h.2, Bool.and_true]
    have e0 : Ent 0 := by unfold Ent; omega
    have e1 : Ent 1 := by unfold Ent; omega
    have ex : Ent x := by unfold Ent; omega
    have h1 : isM 1 0 x 1 = true := decide_eq_true ⟨e1, e0, ex, e1, by simp⟩
    have h2 : isM 1 x 0 1 = true := decide_eq_true ⟨e1, ex, e0, e1, by simp⟩
    split
    · exact h1
    · exact h2
theorem runMats_step (xs : List Int) (i k : Nat) (hk : k < xs.length) (x : Int) (hx : xs.getD k 0 = x) :
    runMats i (xs.take (k + 1)) = runMats i (xs.take k) ++ [if (i + k) % 2 = 1 then ⟨1, 0, x, 1⟩ else ⟨1, x, 0, 1⟩] := by
  induction xs generalizing i k with
  | nil => simp at hk
  | cons y r ih =>
    cases k with
    | zero => simp at hx; subst hx; simp [runMats]
    | succ k =>
      have h1 : k < r.length := by simpa using hk
      have h2 : r.getD k 0 = x := by simpa using hx
      have := ih (i + 1) k h1 h2
      simp only [List.take_succ_cons, runMats, this, List.cons_append]
      rw [show i + 1 + k = i + (k + 1) by omega]
theorem flat_snoc (ms : List Mat) (m : Mat) : flat (ms ++ [m]) = flat ms ++ [m.a, m.b, m.c, m.d] := by simp [flat]

theorem GrA.far {w : World} {L n : Nat} {v : Value} {xs : List Int} (h : GrA w L v n xs) {p : Addr} (hp : ∀ g, v.ownBlock = some g → g ≠ p.block) (u : Value) : GrA (w.setCell p u) L v n xs := by
  refine World.ownsRow.kept (row := some p.block) h ⟨rfl, rfl, rfl, by simp [World.setCell], fun k _ hne => Below.heap_setCell w p u k (fun e => hne (by rw [e]))⟩ ?_
  rcases e : v.ownBlock with _ | g
  · exact .inl rfl
  · exact .inr (fun he => hp g e (by injection he))
theorem GrA.box {w : World} {L n : Nat} {v : Value} {ms : List Mat} (h : GrA w L v n (flat ms)) (h0 : 0 < n) : ∃ g cap, v = .slice (some ⟨g, 0, none⟩) n cap ∧ L ≤ g ∧ Box w g (matCells ms) := by
  have hs := h.sl
  obtain ⟨hl, _, a, cap, rfl, hc⟩ := hs
  obtain ⟨g, rfl, hg, hlt, hcell⟩ := hc h0
  refine ⟨g, cap, rfl, hg, hlt, fun i u hu => ?_⟩
  rw [← flat_cells, List.getElem?_map] at hu
  have hi : i < (flat ms).length := by
    rcases Nat.lt_or_ge i (flat ms).length with h | h
    · exact h
    · rw [List.getElem?_eq_none h] at hu; cases hu
  have := hcell i (by omega)
  rw [List.getElem?_eq_getElem hi] at hu
  injection hu with hu
  subst hu
  simpa [List.getD, List.getElem?_eq_getElem hi] using this
end Go.Proofs.YtfgbmddmmgipnaaDoor
