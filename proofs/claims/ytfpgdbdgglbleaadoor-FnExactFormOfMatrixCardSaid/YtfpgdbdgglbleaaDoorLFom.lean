/- The walk of the law FnExactFormOfMatrix. -/
import Derived.Test.YtfpgdbdgglbleaaDoorLwFormOfMatrix
import Derived.Test.YtfpgdbdgglbleaaDoorFom
namespace Go.Proofs.YtfpgdbdgglbleaaDoor
open Go.ChangeShapes Go.WideShapes Go.ChangeAt Go.RowKit

theorem lawFormOfMatrix_walk (a b c d : Int) (_ : I64 a) (_ : I64 b) (_ : I64 c) (_ : I64 d) (w : World) (hid : Idn w) :
    Calls Tryd.prog 3 #[(.agg #[.int .i64 a, .int .i64 b, .int .i64 c, .int .i64 d])] w fun e w' => e = .returned (.bool true) ∧ Below w.heap.size w w' := by
  rcases h : isM a b c d with _ | _
  · exact lawFormOfMatrix_of a b c d 0 0 0 1 (fun w => specFM_no a b c d h w) (fun w _ => implFM_no a b c d h w) w hid
  by_cases hk : kind a b c d = 0
  · exact lawFormOfMatrix_of a b c d 0 0 0 5 (fun w => specFM_zero a b c d h hk w) (fun w hi => implFM_zero a b c d h hk w hi) w hid
  have hk0 : (kind a b c d == 0) = false := by simpa using hk
  obtain ⟨ea, eb, ec, ed, _⟩ := isM_ent h
  have mc : Mid c := by unfold Ent at ec; unfold Mid; omega
  have mb : Mid b := by unfold Ent at eb; unfold Mid; omega
  have md : Mid (d - a) := by unfold Ent at ea ed; unfold Mid; omega
  have mg := mid_gcd mc md
  have hbc : ¬ (b = 0 ∧ c = 0) := fun e => hk (by unfold kind; rw [if_pos e])
  obtain ⟨g1, h1⟩ : ∃ g1 : Int, (Int.gcd c (d - a) : Int) = g1 := ⟨_, rfl⟩
  rw [h1] at mg
  have hz1 : ¬ (g1 = 0 ∧ b = 0) := by
    rintro ⟨e1, e2⟩
    refine hbc ⟨e2, ?_⟩
    have : Int.gcd c (d - a) = 0 := by omega
    exact (Int.gcd_eq_zero_iff.1 this).1
  obtain ⟨hg1, hg2⟩ := gcd_facts hz1 mg mb
  obtain ⟨g, h2⟩ : ∃ g : Int, (Int.gcd g1 b : Int) = g := ⟨_, rfl⟩
  rw [h2] at hg1 hg2
  have h2' : (Int.gcd g1 (-b) : Int) = g := by rw [Int.gcd_neg]; exact h2
  have hne : ¬ (c.tdiv g = 0 ∧ (d - a).tdiv g = 0 ∧ -(b.tdiv g) = 0) := by
    rintro ⟨e1, _, e3⟩
    have d1 : g.natAbs ∣ b.natAbs := by rw [← h2]; simpa using Int.gcd_dvd_natAbs_right g1 b
    have d2 : g.natAbs ∣ c.natAbs := by
      have k1 : Int.gcd g1 b ∣ g1.natAbs := Int.gcd_dvd_natAbs_left g1 b
      have k2 : g1.natAbs ∣ c.natAbs := by rw [← h1]; simpa using Int.gcd_dvd_natAbs_left c (d - a)
      have := Nat.dvd_trans k1 k2
      rw [← h2]; simpa using this
    by_cases hc : c = 0
    · have hb : b ≠ 0 := fun e => hbc ⟨e, hc⟩
      exact tdiv_ne hb hg1 d1 (by omega)
    · exact tdiv_ne hc hg1 d2 e1
  have he := isQ_of hne
  rcases hw : allW [c.tdiv g, (d - a).tdiv g, -(b.tdiv g)] 1000000 with _ | _
  · exact lawFormOfMatrix_of a b c d 0 0 0 3
      (fun w => specFM_yes false a b c d _ g1 g 0 0 0 3 h rfl hk0 h1 h2 mg hg1 hg2 (he.trans hw) (.inr ⟨rfl, rfl, rfl, rfl, rfl⟩) w)
      (fun w hi => implFM_yes a b c d _ g1 g _ _ _ 0 0 0 3 h rfl hk0 h1 h2' mg hg1 hg2 rfl rfl rfl (fun w => withinMaxForm_no _ _ _ hw w) w hi) w hid
  · exact lawFormOfMatrix_of a b c d _ _ _ 0
      (fun w => specFM_yes true a b c d _ g1 g _ _ _ 0 h rfl hk0 h1 h2 mg hg1 hg2 (he.trans hw) (.inl ⟨rfl, rfl, rfl, rfl, rfl⟩) w)
      (fun w hi => implFM_yes a b c d _ g1 g _ _ _ _ _ _ 0 h rfl hk0 h1 h2' mg hg1 hg2 rfl rfl rfl (fun w => withinMaxForm_yes _ _ _ hw w) w hi) w hid
end Go.Proofs.YtfpgdbdgglbleaaDoor
