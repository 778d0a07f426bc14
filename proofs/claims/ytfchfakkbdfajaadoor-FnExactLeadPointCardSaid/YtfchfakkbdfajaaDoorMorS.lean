/- spec.MatrixOfRuns: contract. -/
import Derived.Test.YtfchfakkbdfajaaDoorMorI
import Derived.Test.YtfchfakkbdfajaaDoorTM
namespace Go.Proofs.YtfchfakkbdfajaaDoor
open Go.ChangeShapes Go.WideShapes Go.ChangeAt Go.RowKit

theorem runMats_get (xs : List Int) : ∀ (i k : Nat) (h : k < (runMats i xs).length) (x : Int), xs.getD k 0 = x → (runMats i xs)[k] = if (i + k) % 2 = 1 then ⟨1, 0, x, 1⟩ else ⟨1, x, 0, 1⟩ := by
  induction xs with
  | nil => intro i k h; simp [runMats] at h
  | cons y r ih =>
    intro i k h x hx
    cases k with
    | zero => simp at hx; subst hx; simp [runMats]
    | succ k =>
      have := ih (i + 1) k (by simpa [runMats] using h) x (by simpa using hx)
      simp only [runMats, List.getElem_cons_succ, this]
      rw [show i + 1 + k = i + (k + 1) by omega]
/-- What a product from the left has come to: p, or too great a number on the way. -/
def Sofar (ms : List Mat) (k : Nat) (p : Mat) (r : Bool) : Prop := (r = true ∧ p.ok = true ∧ prod Mat.one ms = prod p (ms.drop k)) ∨ (r = false ∧ prod Mat.one ms = none)
theorem Sofar.step {ms : List Mat} {k : Nat} {p m q : Mat} {r : Bool} (h : Sofar ms k p true) (hk : k < ms.length) (hm : ms[k] = m) (ht : TM p m q r) : Sofar ms (k + 1) q r := by
  rcases h with ⟨_, hp, h⟩ | ⟨h, _⟩
  · subst hm
    rcases ht with ⟨h1, rfl, rfl⟩ | ⟨h1, rfl, rfl⟩
    · exact .inl ⟨rfl, h1, h.trans (prod_drop_yes hk h1)⟩
    · exact .inr ⟨rfl, h.trans (prod_drop_no hk h1)⟩
  · cases h
theorem Sofar.ok {ms : List Mat} {k : Nat} {p : Mat} (h : Sofar ms k p true) : p.ok = true := by
  rcases h with ⟨_, hp, _⟩ | ⟨h, _⟩
  · exact hp
  · cases h
theorem Sofar.end_yes {ms : List Mat} {p r : Mat} {kd : Int} (h : Sofar ms ms.length p true) (hPA : PA ms r kd) (ha : ms.all Mat.is = true) : r = p ∧ kd = 0 := by
  rcases h with ⟨_, _, h⟩ | ⟨h, _⟩
  · rw [prod_drop_end] at h
    rcases PA_good hPA ha with ⟨h1, _⟩ | ⟨h1, h2⟩
    · rw [h] at h1; cases h1
    · rw [h] at h1; exact ⟨(Option.some.inj h1).symm, h2⟩
  · cases h
theorem Sofar.end_no {ms : List Mat} {k : Nat} {p r : Mat} {kd : Int} (h : Sofar ms k p false) (hPA : PA ms r kd) (ha : ms.all Mat.is = true) : r = Mat.zero ∧ kd = 3 := by
  rcases h with ⟨h, _⟩ | ⟨_, h⟩
  · cases h
  · rcases PA_good hPA ha with ⟨_, h1, h2⟩ | ⟨h1, _⟩
    · exact ⟨h1, h2⟩
    · rw [h] at h1; cases h1
theorem PA.any (ms : List Mat) : ∃ r kd, PA ms r kd := by
  rcases h : ms.all Mat.is with _ | _
  · exact ⟨_, _, .inl ⟨h, rfl, rfl⟩⟩
  · rcases h2 : prod Mat.one ms with _ | r
    · exact ⟨_, _, .inr (.inl ⟨h, h2, rfl, rfl⟩)⟩
    · exact ⟨_, _, .inr (.inr ⟨h, h2, rfl⟩)⟩
theorem Box.reads4' {w : World} {g : Nat} {x0 x1 x2 x3 : Value} (h : Box w g [x0, x1, x2, x3]) (y0 y1 y2 y3 : Value) :
    (w.setCell ⟨g, 0, none⟩ y0).cell? ⟨g, 0, none⟩ = some y0 ∧ ((w.setCell ⟨g, 0, none⟩ y0).setCell ⟨g, 1, none⟩ y1).cell? ⟨g, 1, none⟩ = some y1 ∧
      (((w.setCell ⟨g, 0, none⟩ y0).setCell ⟨g, 1, none⟩ y1).setCell ⟨g, 2, none⟩ y2).cell? ⟨g, 2, none⟩ = some y2 ∧ ((((w.setCell ⟨g, 0, none⟩ y0).setCell ⟨g, 1, none⟩ y1).setCell ⟨g, 2, none⟩ y2).setCell ⟨g, 3, none⟩ y3).cell? ⟨g, 3, none⟩ = some y3 :=
  ⟨((h.set 0 (by simp) y0).four).2.1, (((h.set 0 (by simp) y0).set 1 (by simp) y1).four).2.2.1, ((((h.set 0 (by simp) y0).set 1 (by simp) y1).set 2 (by simp) y2).four).2.2.2.1, (h.put4 y0 y1 y2 y3).four.2.2.2.2.1⟩
/-- The end of the product's loop: what is stored, and the code. -/
def RetM (r : Mat) (kd : Int) (w : World) (e : Ending) (w' : World) : Prop := e = .returned (.tuple #[(.agg #[.int .i64 r.a, .int .i64 r.b, .int .i64 r.c, .int .i64 r.d]), (.int .i64 kd)]) ∧ Below w.heap.size w w'
end Go.Proofs.YtfchfakkbdfajaaDoor
