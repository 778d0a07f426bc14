/- A region that draws its order: one invariant for whatever order. -/
import Derived.Test.YtfchfakkbdfajaaDoorBase
namespace Go.Proofs.YtfchfakkbdfajaaDoor
open Go.ChangeShapes Go.WideShapes Go.ChangeAt Go.RowKit

theorem getD_set_any (l : Array Bool) (i j : Nat) (d : Bool) (hi : i < l.size) : (l.setIfInBounds i true).getD j d = if i = j then true else l.getD j d := by
  by_cases h : i = j
  · subst h
    simp [Array.getD, hi]
  · rw [if_neg h]
    exact getD_set_ne d h
theorem getD_false {l : Array Bool} {i : Nat} (hi : i < l.size) : l.getD i true = l.getD i false := by simp [Array.getD, hi]
theorem set_count : ∀ (xs : List Bool) (i : Nat), xs[i]? = some false → (xs.set i true).count false + 1 = xs.count false
  | [], i, h => by simp at h
  | x :: r, 0, h => by simp at h; subst h; simp
  | x :: r, i + 1, h => by
    have := set_count r i (by simpa using h)
    simp only [List.set_cons_succ, List.count_cons]
    omega
section
variable {P : Program} {ops : Array Oper} {Q : Exit → Act → World → Prop} {md : Region.Mode}
theorem wpAny_inv (I : Array Bool → Act → World → Prop)
    (hs : ∀ (l : Array Bool) (a : Act) (w : World) (i : Nat) (o : Oper), l.size = ops.size → ops[i]? = some o → i < ops.size → l.getD i false = false → (∀ e ∈ o.after, Region.binds md e = true → l.getD e.on false = true) → I l a w →
      ∀ K' : Act → World → Prop, Shut (∀ a w, I (l.setIfInBounds i true) a w → K' a w) → if Region.wanted o (yielded ops a.tmps) = true then Oper.wp P o a w K' Q else K' (a.put o.dst undef) w)
    (he : ∀ (l : Array Bool) (a : Act) (w : World), l.size = ops.size → Region.ready md ops l = [] → I l a w → Q .normal a w) :
    ∀ (fuel : Nat) (l : Array Bool) (a : Act) (w : World), l.size = ops.size → l.toList.count false ≤ fuel → I l a w → wpAny P md ops Q fuel l a w := by
  intro fuel
  induction fuel with
  | zero =>
    intro l a w hl hc hI
    have hr : Region.ready md ops l = [] := by
      cases hr : Region.ready md ops l with
      | nil => rfl
      | cons j r =>
        have hj : j ∈ Region.ready md ops l := by rw [hr]; simp
        obtain ⟨h0, o, ho, _⟩ := mem_ready.1 hj
        have hlt : j < l.size := by rw [hl]; exact (Array.getElem?_eq_some_iff.1 ho).1
        have h1 : l.toList[j]? = some false := by
          rw [Array.getElem?_toList, Array.getElem?_eq_getElem hlt]
          simpa [Array.getD, hlt] using h0
        have := List.count_pos_iff.2 (List.mem_of_getElem? h1)
        omega
    exact ⟨hr, he l a w hl hr hI⟩
  | succ fuel ih =>
    intro l a w hl hc hI
    refine ⟨fun hr => he l a w hl hr hI, fun i hi => ?_⟩
    obtain ⟨h0, o, ho, haft⟩ := mem_ready.1 hi
    have hlt : i < ops.size := (Array.getElem?_eq_some_iff.1 ho).1
    have hlt' : i < l.size := by rw [hl]; exact hlt
    refine wpOp_step ho fun K' hK => hs l a w i o hl ho hlt (by rw [← getD_false hlt']; exact h0) haft hI K' fun a' w' hI' => hK _ _ (ih _ a' w' (by simpa using hl) ?_ hI')
    have h1 : l.toList[i]? = some false := by
      rw [Array.getElem?_toList, Array.getElem?_eq_getElem hlt']
      simpa [Array.getD, hlt'] using h0
    have := set_count l.toList i h1
    simp only [Array.toList_setIfInBounds]
    omega
/-- Where nothing is left that may come, and edges lead back: all has come. -/
theorem ready_all (hback : ∀ i (h : i < ops.size), ∀ e ∈ ops[i].after, e.on < i) {l : Array Bool} (hl : l.size = ops.size) (hr : Region.ready md ops l = []) : ∀ i, i < ops.size → l.getD i false = true := by
  intro i
  induction i using Nat.strongRecOn with
  | _ i ih =>
    intro hi
    rcases h : l.getD i false with _ | _
    · exfalso
      have : i ∈ Region.ready md ops l := mem_ready.2 ⟨by rw [getD_false (by rw [hl]; exact hi)]; exact h, ops[i], Array.getElem?_eq_getElem hi, fun e he _ => ih e.on (hback i hi e he) (Nat.lt_trans (hback i hi e he) hi)⟩
      rw [hr] at this
      cases this
    · rfl
theorem wp_region_inv {id : Nat} {a : Act} {w : World} (hm : P.follows .mixedOrders = true) (I : Array Bool → Act → World → Prop)
    (h0 : I (Array.replicate ops.size false) a w.drew)
    (hs : ∀ (l : Array Bool) (a : Act) (w : World) (i : Nat) (o : Oper), l.size = ops.size → ops[i]? = some o → i < ops.size → l.getD i false = false → (∀ e ∈ o.after, Region.binds .any e = true → l.getD e.on false = true) → I l a w →
      ∀ K' : Act → World → Prop, Shut (∀ a w, I (l.setIfInBounds i true) a w → K' a w) → if Region.wanted o (yielded ops a.tmps) = true then Oper.wp P o a w K' Q else K' (a.put o.dst undef) w)
    (hback : ∀ i (h : i < ops.size), ∀ e ∈ ops[i].after, e.on < i)
    (he : ∀ (l : Array Bool) (a : Act) (w : World), (∀ i, i < ops.size → l.getD i false = true) → I l a w → Q .normal a w) : (Code.region id ops true).wp P Q a w :=
  wp_region_any hm (wpAny_inv I hs (fun l a w hl hr hI => he l a w (ready_all hback hl hr) hI) _ _ _ _ (by simp) (by
    have : ∀ n : Nat, (List.replicate n false).count false ≤ n := fun n => by simp
    simp [Array.toList_replicate]) h0)
end
end Go.Proofs.YtfchfakkbdfajaaDoor
