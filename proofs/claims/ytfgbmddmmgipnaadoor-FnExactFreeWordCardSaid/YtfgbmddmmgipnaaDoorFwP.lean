/- Free words: their letters, and what makes one out of a matrix. -/
import Derived.Test.YtfgbmddmmgipnaaDoorFwN
namespace Go.Proofs.YtfgbmddmmgipnaaDoor
open Go.ChangeShapes Go.WideShapes Go.ChangeAt Go.RowKit

/-- The letters of pairs, the last one ahead. -/
def ex : List Bool → List UInt8
  | [] => []
  | t :: r => 83 :: tl t :: ex r
def FW.rb (f : FW) : List UInt8 := (match f.h with | none => [] | some t => [tl t]) ++ (ex f.p ++ if f.e then [83] else [])
/-- A word's letters. -/
def FW.bytes (f : FW) : List UInt8 := f.rb.reverse
/-- A letter put behind a word. -/
def putB (xs : List UInt8) (x : UInt8) : List UInt8 :=
  if xs.length = 0 then xs ++ [x]
  else if decide (xs.getD (xs.length - 1) 0 = 83) ≠ decide (x = 83) then xs ++ [x]
  else if x = 83 ∨ xs.getD (xs.length - 1) 0 ≠ x then xs.take (xs.length - 1)
  else if x = 85 then xs.take (xs.length - 1) ++ [86] else xs.take (xs.length - 1) ++ [85]
theorem putB_rev (y : UInt8) (r : List UInt8) (x : UInt8) : putB (y :: r).reverse x =
    (if decide (y = 83) ≠ decide (x = 83) then (x :: y :: r).reverse else if x = 83 ∨ y ≠ x then r.reverse else if x = 85 then (86 :: r).reverse else (85 :: r).reverse) := by
  have h1 : (y :: r).reverse.length = r.length + 1 := by simp
  have h2 : (y :: r).reverse.getD ((y :: r).reverse.length - 1) 0 = y := by
    rw [h1, List.getD_eq_getElem?_getD, List.getElem?_eq_getElem (by simp)]
    simp
  have h3 : (y :: r).reverse.take ((y :: r).reverse.length - 1) = r.reverse := by
    rw [h1, List.reverse_cons, Nat.add_sub_cancel, List.take_append_of_le_length (by simp), List.take_of_length_le (by simp)]
  unfold putB
  rw [h2, h3, if_neg (by omega)]
  simp only [List.reverse_cons]
theorem tl_ne (t : Bool) : tl t ≠ 83 := by cases t <;> decide
theorem putB_S (f : FW) : putB f.bytes 83 = f.putS.bytes := by
  obtain ⟨p, e, h⟩ := f
  rcases h with _ | t
  · rcases p with _ | ⟨t, p⟩
    · cases e <;> rfl
    · show putB (83 :: _).reverse 83 = _
      rw [putB_rev]
      cases e <;> simp [FW.putS, FW.bytes, FW.rb]
  · show putB (tl t :: _).reverse 83 = _
    rw [putB_rev, if_pos (by simp [tl_ne])]
    cases e <;> simp [FW.putS, FW.bytes, FW.rb, ex]
theorem putB_X (f : FW) (x : Bool) : putB f.bytes (tl x) = (f.putX x).bytes := by
  obtain ⟨p, e, h⟩ := f
  rcases h with _ | t
  · rcases p with _ | ⟨t, p⟩
    · cases e <;> cases x <;> rfl
    · show putB (83 :: _).reverse (tl x) = _
      rw [putB_rev, if_pos (by simp [tl_ne])]
      cases e <;> simp [FW.putX, FW.bytes, FW.rb, ex]
  · show putB (tl t :: _).reverse (tl x) = _
    rw [putB_rev, if_neg (by simp [tl_ne])]
    cases t <;> cases x <;> simp [FW.putX, FW.bytes, FW.rb, tl]
theorem ex_len (p : List Bool) : (ex p).length = 2 * p.length := by
  induction p with
  | nil => rfl
  | cons t p ih => simp only [ex, List.length_cons, ih]; omega
theorem bytes_len (f : FW) : f.bytes.length = f.len := by
  obtain ⟨p, e, h⟩ := f
  cases h <;> cases e <;> simp [FW.bytes, FW.rb, FW.len, ex_len] <;> omega
/-- The letters of a pair. -/
def pr2 (t : Bool) : List UInt8 := if t then [85, 83] else [86, 83]
theorem ex_rev (p : List Bool) : (ex p).reverse = p.reverse.flatMap pr2 := by
  induction p with
  | nil => rfl
  | cons t p ih =>
    rw [List.reverse_cons, List.flatMap_append, ← ih]
    cases t <;> simp [ex, tl, pr2]
/-- The pairs of a word, a last letter with its S among them. -/
def FW.full (f : FW) : List Bool := match f.h with | none => f.p.reverse | some t => f.p.reverse ++ [t]
def FW.idx (f : FW) : Nat := (if f.e then 1 else 0) + (if f.h.isSome then 2 else 0)
theorem bytes_none {p : List Bool} {e : Bool} : (FW.mk p e none).bytes = (if e then [83] else []) ++ (FW.mk p e none).full.flatMap pr2 := by
  cases e <;> simp [FW.bytes, FW.rb, FW.full, ex_rev]
theorem bytes_some {p : List Bool} {e t : Bool} : (FW.mk p e (some t)).bytes ++ [83] = (if e then [83] else []) ++ (FW.mk p e (some t)).full.flatMap pr2 := by
  cases e <;> cases t <;> simp [FW.bytes, FW.rb, FW.full, ex_rev, pr2, tl]

/-- positive but for the sign -/
def PosS (m : M4) : Prop := (0 ≤ m.a ∧ 0 ≤ m.b ∧ 0 ≤ m.c ∧ 0 ≤ m.d) ∨ (0 ≤ -m.a ∧ 0 ≤ -m.b ∧ 0 ≤ -m.c ∧ 0 ≤ -m.d)
/-- what the program tries -/
def cand (m : M4) : Nat → M4
  | 0 => m
  | 1 => sM m
  | 2 => mS m
  | _ => mS (sM m)
theorem cand_neg (m : M4) (j : Nat) : cand m.neg j = (cand m j).neg := by
  match j with
  | 0 => rfl
  | 1 => rfl
  | 2 => exact mS_neg m
  | j + 3 => exact mS_neg (sM m)
theorem PosS.neg {m : M4} : PosS m.neg ↔ PosS m := by
  simp only [PosS, M4.neg]; omega
theorem mt_full (f : FW) : ∃ N : M4, N = Pf f.full ∧ f.mt = (match f.h with | none => sE f.e N | some _ => mS (sE f.e N)) ∧ (f.h.isSome → 1 ≤ N.b + N.c) := by
  obtain ⟨p, e, h⟩ := f
  rcases h with _ | t
  · refine ⟨_, rfl, ?_, fun h => by simp at h⟩
    show sE e (Pm p) = sE e (Pf p.reverse)
    rw [← Pm_rev, List.reverse_reverse]
  · refine ⟨_, rfl, ?_, fun _ => (Pf_pos _).2.2.2.2.2 (by simp [FW.full])⟩
    show mX t (sE e (Pm p)) = mS (sE e (Pf (p.reverse ++ [t])))
    have h1 : Pf (p.reverse ++ [t]) = Pm (t :: p) := by rw [← Pm_rev]; simp
    rw [h1]
    cases t <;> cases e <;> simp [sE, sM, mS, mX, mU, mV, Pm] <;> omega
/-- The first candidate that is positive but for the sign, and what it is. -/
theorem cand_is (f : FW) (m : M4) (h : Eqs m f.mt) : (∀ j, j < f.idx → ¬ PosS (cand m j)) ∧ PosS (cand m f.idx) ∧ Eqs (cand m f.idx) (Pf f.full) := by
  have key : ∀ m, m = f.mt → (∀ j, j < f.idx → ¬ PosS (cand m j)) ∧ PosS (cand m f.idx) ∧ Eqs (cand m f.idx) (Pf f.full) := by
    rintro m rfl
    obtain ⟨N, hN, hm, hbc⟩ := mt_full f
    obtain ⟨n1, n2, n3, n4, _, _⟩ := Pf_pos f.full
    rw [← hN] at n1 n2 n3 n4 ⊢
    rw [hm]
    clear hm hN h
    obtain ⟨p, e, h⟩ := f
    obtain ⟨a, b, c, d⟩ := N
    simp only at n1 n2 n3 n4
    rcases h with _ | t <;> cases e
    · refine ⟨fun j hj => by simp [FW.idx] at hj, .inl ?_, .inl rfl⟩
      simp [sE, cand, FW.idx]; omega
    · refine ⟨fun j hj => ?_, .inr ?_, .inr rfl⟩
      · obtain rfl : j = 0 := by simp [FW.idx] at hj; omega
        simp only [PosS, cand, sE, sM, if_true]; omega
      · simp [FW.idx, cand, sE, sM]; omega
    · have hbc := hbc rfl
      simp only at hbc
      refine ⟨fun j hj => ?_, .inr ?_, .inr rfl⟩
      · have : j = 0 ∨ j = 1 := by simp [FW.idx] at hj; omega
        rcases this with rfl | rfl <;> simp only [PosS, cand, sE, sM, mS, Bool.false_eq_true, if_false] <;> omega
      · simp [FW.idx, cand, sE, mS]; omega
    · have hbc := hbc rfl
      simp only at hbc
      refine ⟨fun j hj => ?_, .inl ?_, .inl (by simp [FW.idx, cand, sE, sM, mS])⟩
      · have : j = 0 ∨ j = 1 ∨ j = 2 := by simp [FW.idx] at hj; omega
        rcases this with rfl | rfl | rfl <;> simp only [PosS, cand, sE, sM, mS, if_true] <;> omega
      · simp [FW.idx, cand, sE, sM, mS]; omega
  rcases h with rfl | rfl
  · exact key _ rfl
  · obtain ⟨h1, h2, h3⟩ := key _ rfl
    refine ⟨fun j hj hp => h1 j hj ?_, ?_, ?_⟩
    · rw [cand_neg] at hp; exact PosS.neg.1 hp
    · rw [cand_neg]; exact PosS.neg.2 h2
    · rw [cand_neg]; exact Eqs.trans (.inr rfl) h3
theorem full_len (f : FW) : (f.len : Int) = 2 * f.full.length + (if f.e then 1 else 0) - (if f.h.isSome then 1 else 0) := by
  obtain ⟨p, e, h⟩ := f
  cases h <;> cases e <;> simp [FW.len, FW.full] <;> omega
end Go.Proofs.YtfgbmddmmgipnaaDoor
