/- The walk of the law FnExactChainOf. -/
import Derived.Test.YteknmpnkjoopfaaDoorLoChainOf
import Derived.Test.YteknmpnkjoopfaaDoorChJ
namespace Go.Proofs.YteknmpnkjoopfaaDoor
open Go.ChangeShapes Go.WideShapes Go.ChangeAt Go.RowKit

theorem specChainOf_no (a b c d : Int) (h : isM a b c d = false) (w : World) :
    Calls Tryd.prog 13 #[(.agg #[.int .i64 a, .int .i64 b, .int .i64 c, .int .i64 d])] w (Ret3S 0 [] 1 w) := by
  have H := Lib.hid h
  clear h
  go_enter Tryd.func13, Tryd.ntmps13
  go_wp2_with fail
  refine (l01Is_is false _ _ _ _ _ H.out).mono ?_
  rintro e w1 ⟨rfl, hb1⟩
  go_wp2
  go_ret3
  exact ⟨_, rfl, Sl.nil _ _ _ (Nat.le_refl _), by repeat (first | with_reducible exact own_refl _ | with_reducible assumption | with_reducible apply own_alloc | with_reducible apply own_drewN | with_reducible apply own_drew | ((with_reducible refine own_setCell ?_ ?_ _); rotate_left; focus (first | (simp; done) | (simp; omega))) | (with_reducible (refine own_trans ?_ (by assumption))))⟩
theorem specChainOf_yes (F : Nat) (a b c d : Int) (h : isM a b c d = true) (hf : c.natAbs ≤ F) (hF : F ≤ 1000000000) (w : World) :
    Calls Tryd.prog 13 #[(.agg #[.int .i64 a, .int .i64 b, .int .i64 c, .int .i64 d])] w (Ret3S (chS F a b c d) (chL F a b c d) 0 w) := by
  have H := Lib.hid h
  have HD := Lib.hid (show Det a b c d from isM_ent h)
  clear h
  go_enter Tryd.func13, Tryd.ntmps13
  go_wp2_with fail
  refine (l01Is_is true _ _ _ _ _ H.out).mono ?_
  rintro e w1 ⟨rfl, hb1⟩
  have Bw1_0 : Box w1 (w.heap.size) [.int .i64 a, .int .i64 b, .int .i64 c, .int .i64 d] := by refine Box.below ?_ hb1; repeat (first | with_reducible assumption | with_reducible exact Box.new _ _ _ | (with_reducible refine Box.newAt ?_ _ _; (simp; done)) | with_reducible apply Box.alloc | with_reducible apply Box.drewN | with_reducible apply Box.drew)
  obtain ⟨_, _, _, _, _, _, _, _, _⟩ := Bw1_0.four
  have T1 : Below w.heap.size w w1 := by repeat (first | with_reducible exact own_refl _ | with_reducible assumption | with_reducible apply own_alloc | with_reducible apply own_drewN | with_reducible apply own_drew | ((with_reducible refine own_setCell ?_ ?_ _); rotate_left; focus (first | (simp; done) | (simp; omega))) | (with_reducible (refine own_trans ?_ (by assumption))))
  go_wp2_with fail
  refine (specChain_any F a b c d HD.out hf hF _).mono ?_
  rintro e w2 ⟨v, rfl, hG, hb2⟩
  obtain ⟨ad, cap, hv⟩ := hG.shape
  subst hv
  go_wp2
  go_ret3
  exact ⟨_, rfl, hG.sl.weak (by have := T1.size; omega), own_trans T1 hb2⟩
theorem lawChainOf_walk (a b c d : Int) (_ : I64 a) (_ : I64 b) (_ : I64 c) (_ : I64 d) (w : World) (hid : MxS w) :
    Calls Tryd.prog 3 #[(.agg #[.int .i64 a, .int .i64 b, .int .i64 c, .int .i64 d])] w fun e w' => e = .returned (.bool true) ∧ Below w.heap.size w w' := by
  rcases h : isM a b c d with _ | _
  · exact lawChainOf_of a b c d 0 [] 1 (by simp) (fun w => specChainOf_no a b c d h w) (fun w _ => implChain_no a b c d h w) w hid
  · have hc : c.natAbs ≤ 1000000000 := by have := (isM_ent h).2.2.1; unfold Ent at this; omega
    have hl : (chL c.natAbs a b c d).length ≤ 4294967296 := Nat.le_trans (chL_len _ _ _ _ _) (by omega)
    exact lawChainOf_of a b c d _ _ 0 hl (fun w => specChainOf_yes c.natAbs a b c d h (Nat.le_refl _) hc w) (fun w hi => implChain_yes c.natAbs a b c d h (Nat.le_refl _) hc w hi) w hid
end Go.Proofs.YteknmpnkjoopfaaDoor
