/- The walk of the law FnExactLineOf. -/
import Derived.Test.YtmijmlngbahaaaaLoLineOf
namespace Go.Proofs.Ytmijmlngbahaaaa
open Go.ChangeShapes Go.WideShapes Go.ChangeAt Go.RowKit
theorem sumL_prs : ∀ l : List (Int × Int), sumL (prs l) = 2 * l.length
  | [] => rfl
  | p :: l => by
    have := sumL_prs l
    simp only [prs, List.map_cons, sumL, List.length_cons, List.length_nil] at this ⊢
    omega
theorem lawLineOf_walk (n : Int) (_ : I64 n) (w : World) :
    Calls Try.prog 6 #[(.int .i64 n)] w fun e w' => e = .returned (.bool true) ∧ Below w.heap.size w w' := by
  rcases h : inR n 1 60 with _ | _
  · exact lawLineOf_of n [] 2 (by simp) (by simp [sumL]) (by simp) (specLine_no n h) (implLine_no n h) w
  · have hn : 1 ≤ n ∧ n ≤ 60 := of_decide_eq_true h
    have hl := ln_len hn.2
    refine lawLineOf_of n (prs (ln n)) 0 (by simp [prs]; omega) (by rw [sumL_prs]; omega) (fun xs hx => ?_) (specLine_yes n h) (implLine_yes n h) w
    simp only [prs, List.mem_map] at hx
    obtain ⟨p, _, rfl⟩ := hx
    simp
end Go.Proofs.Ytmijmlngbahaaaa
