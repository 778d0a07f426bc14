/- Contracts of products of two matrices. -/
import Derived.Test.YtfgbmddmmgipnaaDoorA
namespace Go.Proofs.YtfgbmddmmgipnaaDoor
open Go.ChangeShapes Go.WideShapes Go.ChangeAt Go.RowKit

set_option maxHeartbeats 1000000 in
theorem multiply_ent (a b c d e f g h : Int) (ha : Ent a) (hb : Ent b) (hc : Ent c) (hd : Ent d) (he : Ent e) (hf : Ent f) (hg : Ent g) (hh : Ent h) (w : World) :
    Calls Tryd.prog 35 #[(.agg #[.int .i64 a, .int .i64 b, .int .i64 c, .int .i64 d]), (.agg #[.int .i64 e, .int .i64 f, .int .i64 g, .int .i64 h])] w fun r w' => r = .returned (.agg #[.int .i64 (a * e + b * g), .int .i64 (a * f + b * h), .int .i64 (c * e + d * g), .int .i64 (c * f + d * h)]) ∧ Below w.heap.size w w' := by
  obtain ⟨_, _⟩ := ent_mul ha he
  obtain ⟨_, _⟩ := ent_mul hb hg
  obtain ⟨_, _⟩ := ent_mul ha hf
  obtain ⟨_, _⟩ := ent_mul hb hh
  obtain ⟨_, _⟩ := ent_mul hc he
  obtain ⟨_, _⟩ := ent_mul hd hg
  obtain ⟨_, _⟩ := ent_mul hc hf
  obtain ⟨_, _⟩ := ent_mul hd hh
  clear ha hb hc hd he hf hg hh
  go_enter Tryd.func35, Tryd.ntmps35
  go_wp2
  exact bodyPost_ret (v := (.agg #[.int .i64 (a * e + b * g), .int .i64 (a * f + b * h), .int .i64 (c * e + d * g), .int .i64 (c * f + d * h)])) (by simp [results, Tryd.results35, go_sem]) rfl ⟨rfl, by repeat (first | with_reducible exact own_refl _ | with_reducible assumption | with_reducible apply own_alloc | with_reducible apply own_drewN | with_reducible apply own_drew | ((with_reducible refine own_setCell ?_ ?_ _); rotate_left; focus (first | (simp; done) | (simp; omega))) | (with_reducible (refine own_trans ?_ (by assumption))))⟩

/-- Four numbers are entries. -/
def okE (p q r s : Int) : Bool := allW [p, q, r, s] 1000000000
theorem okE_true {p q r s : Int} : okE p q r s = true ↔ inW p 1000000000 = true ∧ inW q 1000000000 = true ∧ inW r 1000000000 = true ∧ inW s 1000000000 = true := by
  simp [okE, allW]

theorem entry_is (r : Bool) (x : Int) (h : inW x 1000000000 = r) (w : World) :
    Calls Tryd.prog 32 #[(.int .i64 x)] w fun e w' => e = .returned (.bool r) ∧ w = w' := h ▸ l01Entry_any x w

end Go.Proofs.YtfgbmddmmgipnaaDoor
