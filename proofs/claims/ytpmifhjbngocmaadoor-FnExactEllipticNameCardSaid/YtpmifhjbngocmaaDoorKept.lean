/- The walk of the law FnExactKeptFraction. -/
import Derived.Test.YtpmifhjbngocmaaDoorLoKeptFraction
import Derived.Test.YtpmifhjbngocmaaDoorKind
import Derived.Test.YtpmifhjbngocmaaDoorSKind
import Derived.Test.YtpmifhjbngocmaaDoorKeptM
import Derived.Test.YtpmifhjbngocmaaDoorTr
namespace Go.Proofs.YtpmifhjbngocmaaDoor
open Go.ChangeShapes Go.WideShapes Go.ChangeAt Go.RowKit

theorem ent_mid' {x : Int} (h : Ent x) : Mid x := by unfold Ent at h; unfold Mid; omega
theorem implKind_is (k : Int) (a b c d : Int) (h : isM a b c d = true) (hk : kind a b c d = k) (w : World) (hid : Idn w) :
    Calls Tryd.prog 59 #[(.agg #[.int .i64 a, .int .i64 b, .int .i64 c, .int .i64 d])] w fun e w' => e = .returned (.tuple #[(.int .i64 k), (.int .i64 0)]) ∧ Below w.heap.size w w' := hk ▸ implKind_yes a b c d h w hid
theorem l01Kind_is' (k : Int) (a b c d : Int) (ea : Ent a) (ed : Ent d) (hk : kind a b c d = k) (w : World) :
    Calls Tryd.prog 40 #[(.agg #[.int .i64 a, .int .i64 b, .int .i64 c, .int .i64 d])] w fun e w' => e = .returned (.int .i64 k) ∧ Below w.heap.size w w' := hk ▸ l01Kind_any a b c d ea ed w

theorem kind2 {a b c d : Int} (h : kind a b c d = 2) : ¬ (b = 0 ∧ c = 0) ∧ (a + d).natAbs = 2 := by
  unfold kind at h
  by_cases h0 : b = 0 ∧ c = 0
  · rw [if_pos h0] at h; omega
  · rw [if_neg h0] at h
    by_cases h1 : (a + d).natAbs < 2
    · rw [if_pos h1] at h; omega
    · rw [if_neg h1] at h
      by_cases h2 : (a + d).natAbs = 2
      · exact ⟨h0, h2⟩
      · rw [if_neg h2] at h; omega
theorem kind_four (a b c d : Int) : kind a b c d = 0 ∨ kind a b c d = 1 ∨ kind a b c d = 2 ∨ kind a b c d = 3 := by
  unfold kind
  split
  · exact .inl rfl
  · split
    · exact .inr (.inl rfl)
    · split
      · exact .inr (.inr (.inl rfl))
      · exact .inr (.inr (.inr rfl))
end Go.Proofs.YtpmifhjbngocmaaDoor
