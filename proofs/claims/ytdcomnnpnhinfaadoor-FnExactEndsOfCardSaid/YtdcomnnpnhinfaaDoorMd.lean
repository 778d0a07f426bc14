/- Contracts of CountModulo. -/
import Derived.Test.YtdcomnnpnhinfaaDoorA
import Derived.Test.YtdcomnnpnhinfaaDoorNum
namespace Go.Proofs.YtdcomnnpnhinfaaDoor
open Go.ChangeShapes Go.WideShapes Go.ChangeAt Go.RowKit

set_option maxHeartbeats 1000000 in
theorem implCount_yes (n : Int) (h1 : 1 ≤ n) (h2 : n ≤ 1000) (w : World) :
    Calls Tryd.prog 60 #[(.int .i64 n)] w fun e w' => e = .returned (.tuple #[(.int .i64 (md 999 2 (n * n * n) n)), (.int .i64 0)]) ∧ w = w' := by
  obtain ⟨q1, q2, q3, q4⟩ := cube_facts h1 h2
  go_enter Tryd.func60, Tryd.ntmps60
  go_wp2
  go_loop [4, 5, 6] (fun o r p => ∃ (c s q : Int), o = (.int .i64 c) ∧ r = (.int .i64 s) ∧ p = (.int .i64 q) ∧ 0 ≤ c ∧ c ≤ 1000000000 ∧ 1 ≤ s ∧ s ≤ 1000 ∧ 2 ≤ q ∧ q ≤ 1001 ∧ md (1001 - q).toNat q c s = md 999 2 (n * n * n) n) (fun _ _ p => (1001 - intOf p).toNat)
  case atStart => exact ⟨_, _, _, rfl, rfl, rfl, by omega, by omega, by omega, by omega, by omega, by omega, rfl⟩
  case round =>
    obtain ⟨c, s, q, rfl, rfl, rfl, c1, c2, s1, s2, p1, p2, hmd⟩ := hrel
    have HM := Lib.hid hmd
    clear hmd
    by_cases hq : q ≤ s
    · by_cases hr : s % q = 0
      · have hr' : (s % q != 0) = false := by simp [hr]
        have HT := Lib.hid (md_take (c := c) p1 hq s2 hr)
        obtain ⟨d1, d2, d3, d4, d5, d6⟩ := cnt_facts (c := c) p1 (by omega) c1
        clear hr
        go_wp2
        go_loop [5] (fun r => ∃ t : Int, r = (.int .i64 t) ∧ 1 ≤ t ∧ t ≤ 1000 ∧ strip 1000 q t = strip 1000 q s) (fun r => (intOf r).toNat)
        case atStart => exact ⟨_, rfl, s1, s2, rfl⟩
        case round =>
          obtain ⟨t, rfl, t1, t2, hst⟩ := hrel
          have HS := Lib.hid hst
          clear hst
          by_cases ht : t % q = 0
          · have ht' : (t % q == 0) = true := by simp [ht]
            obtain ⟨f1, f2⟩ := div_facts p1 t1 ht
            have HU := Lib.hid (strip_step p1 t1 t2 ht)
            clear ht
            go_wp2
            go_round
            case rel => exact ⟨_, rfl, f1, by omega, HU.out.trans HS.out⟩
            case measure => simp [intOf]; omega
          · have ht' : (t % q == 0) = false := by simp [ht]
            have HU := Lib.hid (strip_stop (p := q) ht)
            clear ht
            go_wp2
            go_round
            case rel => exact ⟨_, _, _, rfl, rfl, rfl, d5, by omega, t1, t2, by omega, by omega, by rw [← HU.out, HS.out]; exact HT.out.trans HM.out⟩
            case measure => simp [intOf]; omega
      · have hr' : (s % q != 0) = true := by simp [hr]
        have HT := Lib.hid (md_skip (c := c) p1 hq s2 hr)
        clear hr
        go_wp2
        go_round
        case rel => exact ⟨_, _, _, rfl, rfl, rfl, c1, c2, s1, s2, by omega, by omega, HT.out.trans HM.out⟩
        case measure => simp [intOf]; omega
    · have HE := Lib.hid (md_done (f := (1001 - q).toNat) (c := c) (Int.not_le.1 hq))
      go_wp2
      go_ret2
      exact ⟨ret_int2 (HE.out.symm.trans HM.out), rfl⟩

theorem implCount_no (n : Int) (h : ¬ (1 ≤ n ∧ n ≤ 1000)) (w : World) :
    Calls Tryd.prog 60 #[(.int .i64 n)] w fun e w' => e = .returned (.tuple #[(.int .i64 0), (.int .i64 2)]) ∧ w = w' := by
  by_cases h1 : n < 1
  · clear h
    go_enter Tryd.func60, Tryd.ntmps60
    go_wp2
    go_ret2
    exact ⟨rfl, rfl⟩
  · have h2 : 1000 < n := by omega
    clear h
    go_enter Tryd.func60, Tryd.ntmps60
    go_wp2
    go_ret2
    exact ⟨rfl, rfl⟩
end Go.Proofs.YtdcomnnpnhinfaaDoor
