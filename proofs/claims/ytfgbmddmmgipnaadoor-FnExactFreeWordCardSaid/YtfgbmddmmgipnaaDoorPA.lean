/- Contract of impl.productOfAll. -/
import Derived.Test.YtfgbmddmmgipnaaDoorMat
import Derived.Test.YtfgbmddmmgipnaaDoorMul
namespace Go.Proofs.YtfgbmddmmgipnaaDoor
open Go.ChangeShapes Go.WideShapes Go.ChangeAt Go.RowKit

/-- The package's table 'identity' holds 1, 0, 0, 1. -/
def Idn (w : World) : Prop := Rd w 1 [.int .i64 1, .int .i64 0, .int .i64 0, .int .i64 1]

theorem PA_bad {ms : List Mat} {r : Mat} {kd : Int} (h : PA ms r kd) (k : Nat) (hk : k < ms.length) (hm : ms[k].is = false) : r = Mat.zero ∧ kd = 1 := by
  have hf : ms.all Mat.is = false := List.all_eq_false.2 ⟨ms[k], List.getElem_mem hk, by simp [hm]⟩
  rcases h with ⟨_, h1, h2⟩ | ⟨h, _⟩ | ⟨h, _⟩
  · exact ⟨h1, h2⟩
  · rw [hf] at h; cases h
  · rw [hf] at h; cases h
theorem PA_good {ms : List Mat} {r : Mat} {kd : Int} (h : PA ms r kd) (ha : ms.all Mat.is = true) : (prod Mat.one ms = none ∧ r = Mat.zero ∧ kd = 3) ∨ (prod Mat.one ms = some r ∧ kd = 0) := by
  rcases h with ⟨h, _⟩ | ⟨_, h⟩ | ⟨_, h⟩
  · rw [ha] at h; cases h
  · exact .inl h
  · exact .inr h
theorem all_step {ms : List Mat} {k : Nat} (hk : k < ms.length) (h : (ms.take k).all Mat.is = true) (hm : ms[k].is = true) : (ms.take (k + 1)).all Mat.is = true := by
  rw [List.take_succ_eq_append_getElem hk, List.all_append, h]
  simp [hm]
theorem all_get {ms : List Mat} (h : ms.all Mat.is = true) (k : Nat) (hk : k < ms.length) : ms[k].is = true := List.all_eq_true.1 h _ (List.getElem_mem hk)
theorem ret_mat {a b c d k a' b' c' d' k' : Int} (h1 : a = a') (h2 : b = b') (h3 : c = c') (h4 : d = d') (h5 : k = k') : Ending.returned (.tuple #[(.agg #[.int .i64 a, .int .i64 b, .int .i64 c, .int .i64 d]), (.int .i64 k)]) = Ending.returned (.tuple #[(.agg #[.int .i64 a', .int .i64 b', .int .i64 c', .int .i64 d']), (.int .i64 k')]) := by
  subst h1 h2 h3 h4 h5; rfl
theorem prod_drop_yes {ms : List Mat} {p : Mat} {k : Nat} (hk : k < ms.length) (h : (p.mul ms[k]).ok = true) : prod p (ms.drop k) = prod (p.mul ms[k]) (ms.drop (k + 1)) := by
  rw [List.drop_eq_getElem_cons hk, prod, if_pos h]
theorem prod_drop_no {ms : List Mat} {p : Mat} {k : Nat} (hk : k < ms.length) (h : (p.mul ms[k]).ok = false) : prod p (ms.drop k) = none := by
  rw [List.drop_eq_getElem_cons hk, prod, if_neg (by simp [h])]
theorem prod_drop_end {ms : List Mat} {p : Mat} : prod p (ms.drop ms.length) = some p := by
  rw [List.drop_of_length_le (Nat.le_refl _), prod]

end Go.Proofs.YtfgbmddmmgipnaaDoor
