/- The walk of the law FnExactPositiveWord. -/
import Derived.Test.YtpglcpolbhlekaaDoorPwdS
import Derived.Test.YtpglcpolbhlekaaDoorLoPositiveWord
namespace Go.Proofs.YtpglcpolbhlekaaDoor
open Go.ChangeShapes Go.WideShapes Go.ChangeAt Go.RowKit

theorem lawPositiveWord_walk (a b c d : Int) (_ : I64 a) (_ : I64 b) (_ : I64 c) (_ : I64 d) (w : World) (hid : Idn w) :
    Calls Tryd.prog 5 #[(.agg #[.int .i64 a, .int .i64 b, .int .i64 c, .int .i64 d])] w fun e w' => e = .returned (.bool true) ∧ Below w.heap.size w w' := by
  rcases h : isM a b c d with _ | _
  · exact lawPositiveWord_of a b c d ⟨#[]⟩ 1 (fun w => specPwd_bad a b c d 1 rfl (fun w => l02Given_is 1 a b c d (.inl ⟨h, rfl⟩) w) w) (fun w _ => implPwd_bad a b c d 1 rfl (fun w => implRunsOf_no a b c d h w) w) w hid
  rcases hp : posB a b c d with _ | _
  · exact lawPositiveWord_of a b c d ⟨#[]⟩ 5 (fun w => specPwd_bad a b c d 5 rfl (fun w => l02Given_is 5 a b c d (.inr (.inl ⟨h, hp, rfl⟩)) w) w) (fun w _ => implPwd_bad a b c d 5 rfl (fun w => implRunsOf_state a b c d h hp w) w) w hid
  have hQ := pos_of h hp
  have hm := (pos_msr hQ).1
  obtain ⟨xs, hxs⟩ : ∃ xs, runsF (msr a b c d) a b c d = xs := ⟨_, rfl⟩
  have hall : ∀ x ∈ xs, 0 ≤ x := fun x hx => (runsF_all _ hQ x (hxs ▸ hx)).1
  have hlen : xs.length ≤ 10000000000 := by
    have := runsF_len (msr a b c d) a b c d
    rw [hxs] at this
    omega
  have hsum : sumI xs ≤ 1000000000000 := by
    have := runsF_sum (msr a b c d) hQ
    rw [hxs] at this
    obtain ⟨_, _, _, _, ha, hb, hc, hd, _⟩ := hQ
    omega
  have hG := fun w => l02Given_is 0 a b c d (.inr (.inr ⟨h, hp, rfl⟩)) w
  have hR : ∀ w : World, Calls Tryd.prog 36 #[(.agg #[.int .i64 a, .int .i64 b, .int .i64 c, .int .i64 d])] w fun e w' => ∃ v, e = .returned v ∧ Gr w' (w.heap.size + 1) v xs ∧ Below w.heap.size w w' := fun w => by
    have := specRuns_any (msr a b c d) a b c d hQ (Nat.le_refl _) (by omega) w
    rwa [hxs] at this
  have hI : ∀ w w' : World, Idn w → Below w.heap.size w w' → Calls Tryd.prog 37 #[(.agg #[.int .i64 a, .int .i64 b, .int .i64 c, .int .i64 d])] w' (RetS xs 0 w') := fun w w' hi hb => by
    have := implRunsOf_yes a b c d h hp w' (Rd.below hi hb)
    rwa [hxs] at this
  by_cases hbig : 200 < sumI xs
  · exact lawPositiveWord_of a b c d ⟨#[]⟩ 3 (fun w => specPwd_yes a b c d xs hall hlen _ rfl hsum [] 3 (.inl ⟨hbig, rfl, rfl⟩) hG hR w) (fun w hi => implPwd_big a b c d xs hall hlen _ rfl hsum hbig w (hI w · hi)) w hid
  · exact lawPositiveWord_of a b c d ⟨(spellB [84] [76] xs).toArray⟩ 0 (fun w => specPwd_yes a b c d xs hall hlen _ rfl hsum _ 0 (.inr ⟨by omega, rfl, rfl⟩) hG hR w) (fun w hi => implPwd_yes a b c d xs hall hlen _ rfl (by omega) w (hI w · hi)) w hid
end Go.Proofs.YtpglcpolbhlekaaDoor
