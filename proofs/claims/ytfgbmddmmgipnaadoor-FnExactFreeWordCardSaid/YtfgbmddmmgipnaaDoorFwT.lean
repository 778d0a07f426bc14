/- Free words: the model's free word of a matrix. -/
import Derived.Test.YtfgbmddmmgipnaaDoorFwS
namespace Go.Proofs.YtfgbmddmmgipnaaDoor
open Go.ChangeShapes Go.WideShapes Go.ChangeAt Go.RowKit

theorem chL_bnd : ∀ (f : Nat) {a b c d : Int}, Det a b c d → c.natAbs ≤ f → ∀ x ∈ chL f a b c d, Ent x := by
  intro f
  induction f with
  | zero =>
    intro a b c d h hc x hx
    obtain rfl : c = 0 := by omega
    rw [ch_end.2, List.mem_singleton] at hx
    subst hx
    exact (det_last h).2
  | succ f ih =>
    intro a b c d h hc x hx
    by_cases h0 : c = 0
    · subst h0
      rw [ch_end.2, List.mem_singleton] at hx
      subst hx
      exact (det_last h).2
    · obtain ⟨h1, h2, h3⟩ := det_next h h0
      rw [(ch_go h0).2] at hx
      rcases List.mem_cons.1 hx with rfl | hx
      · exact h1
      · exact ih h2 (by omega) x hx
theorem getD_ent {xs : List Int} (h : ∀ x ∈ xs, Ent x) (k : Nat) : Ent (xs.getD k 0) := by
  rw [List.getD]
  rcases hi : xs[k]? with _ | y
  · unfold Ent; simp
  · exact h y (List.mem_of_getElem? hi)
theorem absS_app (a b : List Int) : absS (a ++ b) = absS a + absS b := by
  induction a with
  | nil => simp [absS]
  | cons x a ih => simp only [List.cons_append, absS, ih]; omega
theorem absS_take {xs : List Int} {k : Nat} (hk : k < xs.length) : absS (xs.take (k + 1)) = absS (xs.take k) + (xs.getD k 0).natAbs := by
  rw [List.take_succ_eq_append_getElem hk, absS_app, List.getD, List.getElem?_eq_getElem hk]
  simp [absS]
theorem absS_le {xs : List Int} (k : Nat) : absS (xs.take k) ≤ absS xs := by
  have := absS_app (xs.take k) (xs.drop k)
  rw [List.take_append_drop] at this
  omega
theorem absS_bnd {xs : List Int} (h : ∀ x ∈ xs, Ent x) : absS xs ≤ 1000000000 * xs.length := by
  induction xs with
  | nil => simp [absS]
  | cons x r ih =>
    have h1 := ih fun y hy => h y (by simp [hy])
    have h2 := h x (by simp)
    unfold Ent at h2
    simp only [absS, List.length_cons]
    omega
theorem absS_get {xs : List Int} {k : Nat} (hk : k < xs.length) : (xs.getD k 0).natAbs ≤ absS xs := by
  have := absS_take hk
  have := absS_le (xs := xs) (k + 1)
  omega
theorem inn_len : ∀ {l : List Int}, Inn l → l.length ≤ absS l + 1
  | [], _ => by simp
  | [q], _ => by simp [absS]
  | q :: x :: r, h => by
    have h1 := inn_len h.2
    have h2 := h.1
    simp only [List.length_cons, absS] at h1 ⊢
    omega
theorem chL_len3 (f : Nat) (a b c d : Int) : (chL f a b c d).length ≤ absS (chL f a b c d) + 2 := by
  cases f with
  | zero => simp [chL]
  | succ f =>
    rw [chL]
    split
    · simp
    · have := inn_len (chL_inn f c d (chq a c * c - a) (chq a c * d - b) (chq_half (by assumption)))
      simp only [List.length_cons, absS]
      omega
theorem len_S (f : FW) : f.putS.len ≤ f.len + 1 := by
  obtain ⟨p, e, h⟩ := f
  rcases h with _ | t
  · rcases p with _ | ⟨t, p⟩
    · cases e <;> simp [FW.putS, FW.len]
    · cases e <;> simp [FW.putS, FW.len] <;> omega
  · cases e <;> simp [FW.putS, FW.len] <;> omega
theorem len_X (x : Bool) (f : FW) : (f.putX x).len ≤ f.len + 1 := by
  obtain ⟨p, e, h⟩ := f
  rcases h with _ | t
  · cases e <;> simp [FW.putX, FW.len]
  · cases t <;> cases x <;> cases e <;> simp [FW.putX, FW.len] <;> omega
theorem us_next (n : Nat) : ∀ f : FW, f.us (n + 1) = ((f.us n).putX true).putS := by
  induction n with
  | zero => intro f; rfl
  | succ n ih => intro f; exact ih ((f.putX true).putS)
theorem sv_next (n : Nat) : ∀ f : FW, f.sv (n + 1) = ((f.sv n).putS).putX false := by
  induction n with
  | zero => intro f; rfl
  | succ n ih => intro f; exact ih ((f.putS).putX false)
theorem us_le (n : Nat) (f : FW) : (f.us n).len ≤ f.len + 2 * n := by
  induction n with
  | zero => simp [FW.us]
  | succ n ih =>
    rw [us_next]
    have h1 := len_S ((f.us n).putX true)
    have h2 := len_X true (f.us n)
    omega
theorem sv_le (n : Nat) (f : FW) : (f.sv n).len ≤ f.len + 2 * n := by
  induction n with
  | zero => simp [FW.sv]
  | succ n ih =>
    rw [sv_next]
    have h1 := len_X false ((f.sv n).putS)
    have h2 := len_S (f.sv n)
    omega
theorem step_two (f : FW) (q : Int) : (f.us q.toNat).sv (-q).toNat = f.step q := by
  unfold FW.step
  by_cases h : 0 ≤ q
  · rw [if_pos h, show (-q).toNat = 0 by omega]; rfl
  · rw [if_neg h, show q.toNat = 0 by omega]; rfl
/-- S ahead of all but the first number -/
def preS (k : Nat) (f : FW) : FW := if k = 0 then f else f.putS
/-- what is still to come -/
def nxQ (k : Nat) (f : FW) (l : List Int) : FW := if l = [] then f else (preS k f).goQ l
theorem nxQ_step {xs : List Int} {k : Nat} (hk : k < xs.length) (f : FW) : nxQ k f (xs.drop k) = nxQ (k + 1) ((preS k f).step (xs.getD k 0)) (xs.drop (k + 1)) := by
  unfold nxQ
  have h1 : xs.drop k = xs.getD k 0 :: xs.drop (k + 1) := by
    rw [List.drop_eq_getElem_cons hk, List.getD, List.getElem?_eq_getElem hk]; rfl
  rw [h1, if_neg (by simp)]
  rcases hr : xs.drop (k + 1) with _ | ⟨x, r⟩
  · rfl
  · rw [if_neg (by simp), goQ_cons _ _ (by simp)]
    rfl
theorem put_S1 (f : FW) (hf : f.len ≤ 100000) (L : Nat) (v : Value) (w : World) (hG : GrB w L v (nums f.bytes)) (hL : L ≤ w.heap.size) :
    Calls Tryd.prog 34 #[v, .int .u8 83] w fun e w' => ∃ v', e = .returned v' ∧ GrB w' L v' (nums f.putS.bytes) ∧ Below L w w' := put_any f hf 83 _ (.inl ⟨rfl, rfl⟩) L v w hG hL
theorem put_U1 (f : FW) (hf : f.len ≤ 100000) (L : Nat) (v : Value) (w : World) (hG : GrB w L v (nums f.bytes)) (hL : L ≤ w.heap.size) :
    Calls Tryd.prog 34 #[v, .int .u8 85] w fun e w' => ∃ v', e = .returned v' ∧ GrB w' L v' (nums (f.putX true).bytes) ∧ Below L w w' := put_any f hf 85 _ (.inr (.inl ⟨rfl, rfl⟩)) L v w hG hL
theorem put_V1 (f : FW) (hf : f.len ≤ 100000) (L : Nat) (v : Value) (w : World) (hG : GrB w L v (nums f.bytes)) (hL : L ≤ w.heap.size) :
    Calls Tryd.prog 34 #[v, .int .u8 86] w fun e w' => ∃ v', e = .returned v' ∧ GrB w' L v' (nums (f.putX false).bytes) ∧ Below L w w' := put_any f hf 86 _ (.inr (.inr ⟨rfl, rfl⟩)) L v w hG hL
end Go.Proofs.YtfgbmddmmgipnaaDoor
