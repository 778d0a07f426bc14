/- A map's literal of letters, laid in whatever order. -/
import Derived.Test.YtfchfakkbdfajaaDoorAnyInv
import Derived.Test.YtfchfakkbdfajaaDoorLet
namespace Go.Proofs.YtfchfakkbdfajaaDoor
open Go.ChangeShapes Go.WideShapes Go.ChangeAt Go.RowKit

open Classical in
/-- How the map looks up where the inserts that are listed have come. -/
noncomputable def ltF : List (Nat × UInt8 × Mat) → Array Bool → Lit → Option Mat
  | [], _, _ => none
  | e :: r, l, x => if x = byteK e.2.1 then (if l.getD e.1 false = true then some e.2.2 else none) else ltF r l x
theorem ltF_keep {es : List (Nat × UInt8 × Mat)} {l : Array Bool} {i : Nat} (hi : i < l.size) (h : ∀ e ∈ es, e.1 ≠ i) : ltF es (l.setIfInBounds i true) = ltF es l := by
  funext x
  induction es with
  | nil => rfl
  | cons e r ih =>
    simp only [ltF]
    have hg : (l.setIfInBounds i true).getD e.1 false = l.getD e.1 false := by rw [getD_set_any _ _ _ _ hi, if_neg (fun q => h e (List.mem_cons_self ..) q.symm)]
    rw [ih fun e he => h e (List.mem_cons_of_mem _ he), hg]
theorem ltF_none {es : List (Nat × UInt8 × Mat)} {l : Array Bool} (h : ∀ e ∈ es, l.getD e.1 false = false) : ltF es l = fun _ => none := by
  funext x
  induction es with
  | nil => rfl
  | cons e r ih =>
    simp only [ltF]
    rw [ih fun e he => h e (List.mem_cons_of_mem _ he), h e (List.mem_cons_self ..)]
    simp
open Classical in
theorem ltF_put {es : List (Nat × UInt8 × Mat)} {l : Array Bool} {i : Nat} {c : UInt8} {m : Mat} (hi : i < l.size) (hm : (i, c, m) ∈ es) (h1 : (es.map fun e => e.1).Nodup) (h2 : (es.map fun e => e.2.1).Nodup) :
    (fun x => if x = byteK c then some m else ltF es l x) = ltF es (l.setIfInBounds i true) := by
  funext x
  induction es with
  | nil => cases hm
  | cons e r ih =>
    simp only [List.map_cons, List.nodup_cons] at h1 h2
    simp only [ltF]
    rcases List.mem_cons.1 hm with rfl | hm
    · have hk := ltF_keep (es := r) hi (fun e he q => h1.1 (List.mem_map.2 ⟨e, he, q⟩))
      simp only [hk, getD_set_any _ _ _ _ hi, if_true]
      by_cases hx : x = byteK c
      · simp [hx]
      · simp [hx]
    · have hne : e.1 ≠ i := fun q => h1.1 (List.mem_map.2 ⟨_, hm, q.symm⟩)
      have hnc : byteK c ≠ byteK e.2.1 := fun q => by
        simp only [byteK, Lit.int.injEq, true_and] at q
        exact h2.1 (List.mem_map.2 ⟨_, hm, UInt8.toNat_inj.1 (show c.toNat = e.2.1.toNat by omega)⟩)
      have := ih hm h1.2 h2.2
      have hg : (l.setIfInBounds i true).getD e.1 false = l.getD e.1 false := by rw [getD_set_any _ _ _ _ hi, if_neg (fun q => hne q.symm)]
      rw [hg, ← this]
      by_cases hx : x = byteK e.2.1
      · have hxc : x ≠ byteK c := fun q => hnc (by rw [← q, hx])
        simp [hx, hnc.symm]
      · simp [hx]
theorem set_countT : ∀ (xs : List Bool) (i : Nat), xs[i]? = some false → (xs.set i true).count true = xs.count true + 1
  | [], i, h => by simp at h
  | x :: r, 0, h => by simp at h; subst h; simp
  | x :: r, i + 1, h => by
    have := set_countT r i (by simpa using h)
    simp only [List.set_cons_succ, List.count_cons]
    omega
theorem count_set {l : Array Bool} {i : Nat} (hi : i < l.size) (hf : l.getD i false = false) : (l.setIfInBounds i true).toList.count true = l.toList.count true + 1 := by
  rw [Array.toList_setIfInBounds]
  refine set_countT _ _ ?_
  rw [Array.getElem?_toList, Array.getElem?_eq_getElem hi]
  simpa [Array.getD, hi] using hf
/-- The map's slot, once it is made. -/
def MP (es : List (Nat × UInt8 × Mat)) (B : Nat) (l : Array Bool) (u : Value) (w : World) : Prop :=
  ∃ b n, u = .map (some b) ∧ B ≤ b ∧ n ≤ l.toList.count true ∧ LMn w 52 5 b (ltF es l) n
theorem MP.keep {es : List (Nat × UInt8 × Mat)} {B : Nat} {l : Array Bool} {u : Value} {w w' : World} {i : Nat} (h : MP es B l u w) (hi : i < l.size) (hf : l.getD i false = false) (hne : ∀ e ∈ es, e.1 ≠ i) (hb : Below w.heap.size w w') : MP es B (l.setIfInBounds i true) u w' := by
  obtain ⟨b, n, h1, h2, h3, h4⟩ := h
  exact ⟨b, n, h1, h2, by rw [count_set hi hf]; omega, by rw [ltF_keep hi hne]; exact h4.below hb⟩
theorem MP.made {es : List (Nat × UInt8 × Mat)} {B : Nat} {l : Array Bool} {i : Nat} (w : World) (hB : B ≤ w.heap.size) (hi : i < l.size) (hne : ∀ e ∈ es, e.1 ≠ i) (hz : ∀ e ∈ es, l.getD e.1 false = false) : MP es B (l.setIfInBounds i true) (.map (some w.heap.size)) (w.alloc (.map #[] 0)) := by
  refine ⟨w.heap.size, 0, rfl, hB, Nat.zero_le _, ?_⟩
  rw [ltF_keep hi hne, ltF_none hz]
  exact LMn.made w _ _ Tryd.underlying52
theorem MP.put {es : List (Nat × UInt8 × Mat)} {B : Nat} {l : Array Bool} {u : Value} {w : World} {i : Nat} {c : UInt8} {m : Mat} (h : MP es B l u w) (hi : i < l.size) (hsz : l.size ≤ 1000) (hf : l.getD i false = false) (hm : (i, c, m) ∈ es) (h1 : (es.map fun e => e.1).Nodup) (h2 : (es.map fun e => e.2.1).Nodup) (w0 : World) (hw : w0.heap.size = B) (T : Below B w0 w) :
    ∃ b w', u = .map (some b) ∧ (Instr.mapUpdate 52 (.map (some b)) (.int .u8 (c.toNat : Int)) (matV m)).run Tryd.prog w = .ok () w' ∧ MP es B (l.setIfInBounds i true) (.map (some b)) w' ∧ Below B w0 w' := by
  obtain ⟨b, n, rfl, hb, hn, h4⟩ := h
  have hc : l.toList.count true ≤ 1000 := Nat.le_trans (List.count_le_length) (by rw [Array.length_toList]; exact hsz)
  obtain ⟨w', r, l', g⟩ := h4.put byte_keyed (by omega) (.int .u8 (c.toNat : Int)) (byteK c) m (byte_key c) trivial
  refine ⟨b, w', rfl, r, ⟨b, n + 1, rfl, hb, by rw [count_set hi hf]; omega, ?_⟩, ?_⟩
  · rw [← ltF_put hi hm h1 h2]
    exact l'
  · subst hw
    exact below_put T hb g T.size
theorem keepC {l : Array Bool} {i j : Nat} {p : Prop} (hi : i < l.size) (hne : i ≠ j) (C : l.getD j false = true → p) : (l.setIfInBounds i true).getD j false = true → p := by
  rw [getD_set_any _ _ _ _ hi, if_neg hne]
  exact C
open Classical in
/-- How the map looks up in the end. -/
noncomputable def ltA : List (Nat × UInt8 × Mat) → Lit → Option Mat
  | [], _ => none
  | e :: r, x => if x = byteK e.2.1 then some e.2.2 else ltA r x
theorem ltF_all {es : List (Nat × UInt8 × Mat)} {l : Array Bool} (h : ∀ e ∈ es, l.getD e.1 false = true) : ltF es l = ltA es := by
  funext x
  induction es with
  | nil => rfl
  | cons e r ih =>
    simp only [ltF, ltA]
    rw [ih fun e he => h e (List.mem_cons_of_mem _ he), h e (List.mem_cons_self ..)]
    simp
end Go.Proofs.YtfchfakkbdfajaaDoor
