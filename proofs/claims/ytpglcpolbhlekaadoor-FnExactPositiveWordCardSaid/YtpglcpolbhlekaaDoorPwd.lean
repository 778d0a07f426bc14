/- PositiveWord: the program's side. -/
import Derived.Test.YtpglcpolbhlekaaDoorPwM
import Derived.Test.YtpglcpolbhlekaaDoorLRunsOf
namespace Go.Proofs.YtpglcpolbhlekaaDoor
open Go.ChangeShapes Go.WideShapes Go.ChangeAt Go.RowKit

/-- What a call that makes a word gives back. -/
def RetT (l : List UInt8) (k : Int) (w : World) (e : Ending) (w' : World) : Prop := e = .returned (.tuple #[.string ⟨l.toArray⟩, (.int .i64 k)]) ∧ Below w.heap.size w w'
set_option maxHeartbeats 1000000 in
theorem implPwd_bad (a b c d k : Int) (hk : (k == 0) = false) (hR : ∀ w : World, Calls Tryd.prog 37 #[(.agg #[.int .i64 a, .int .i64 b, .int .i64 c, .int .i64 d])] w (RetS [] k w)) (w : World) : Calls Tryd.prog 17 #[(.agg #[.int .i64 a, .int .i64 b, .int .i64 c, .int .i64 d])] w (RetT [] k w) := by
  have HR := Lib.hid hR
  have hk' : (k != 0) = true := by simpa using hk
  clear hR
  go_enter Tryd.func17, Tryd.ntmps17
  go_wp2_with fail
  refine (HR.out _).mono ?_
  rintro e w1 ⟨v, rfl, hs, hb1⟩
  go_wp2
  go_ret2
  exact ⟨rfl, by repeat (first | with_reducible exact own_refl _ | with_reducible assumption | with_reducible apply own_alloc | with_reducible apply own_drewN | with_reducible apply own_drew | ((with_reducible refine own_setCell ?_ ?_ _); rotate_left; focus (first | (simp; done) | (simp; omega))) | (with_reducible (refine own_trans ?_ (by assumption))))⟩
set_option maxHeartbeats 1000000 in
theorem implPwd_big (a b c d : Int) (xs : List Int) (hx : ∀ x ∈ xs, 0 ≤ x) (hn : xs.length ≤ 10000000000) (S : Int) (hS : sumI xs = S) (hS1 : S ≤ 1000000000000) (hS2 : 200 < S) (w : World) (hR : ∀ w' : World, Below w.heap.size w w' → Calls Tryd.prog 37 #[(.agg #[.int .i64 a, .int .i64 b, .int .i64 c, .int .i64 d])] w' (RetS xs 0 w')) : Calls Tryd.prog 17 #[(.agg #[.int .i64 a, .int .i64 b, .int .i64 c, .int .i64 d])] w (RetT [] 3 w) := by
  have HR := Lib.hid hR
  have HX := Lib.hid hx
  have HS := Lib.hid hS
  clear hR hx hS
  go_enter Tryd.func17, Tryd.ntmps17
  go_wp2_with fail
  refine (HR.out _ (by repeat (first | with_reducible exact own_refl _ | with_reducible assumption | with_reducible apply own_alloc | with_reducible apply own_drewN | with_reducible apply own_drew | ((with_reducible refine own_setCell ?_ ?_ _); rotate_left; focus (first | (simp; done) | (simp; omega))) | (with_reducible (refine own_trans ?_ (by assumption)))))).mono ?_
  rintro e w1 ⟨v, rfl, hs, hb1⟩
  obtain ⟨hu, ad, cap, rfl, hc⟩ := hs
  have T1 : Below w.heap.size w w1 := by repeat (first | with_reducible exact own_refl _ | with_reducible assumption | with_reducible apply own_alloc | with_reducible apply own_drewN | with_reducible apply own_drew | ((with_reducible refine own_setCell ?_ ?_ _); rotate_left; focus (first | (simp; done) | (simp; omega))) | (with_reducible (refine own_trans ?_ (by assumption))))
  have HCS : Hid (Calls Tryd.prog 38 #[.slice ad xs.length cap] w1 fun e w' => e = .returned (.int .i64 S) ∧ w1 = w') := Lib.hid (by
    rcases Nat.eq_zero_or_pos xs.length with h0 | h0
    · exact sumOf_any xs HX.out S HS.out (by omega) 0 0 cap ad (by omega) (fun h => by omega) w1 (fun k hk => by omega)
    · obtain ⟨g, off, had, _, _, hcc⟩ := hc h0
      exact sumOf_any xs HX.out S HS.out (by omega) g off cap ad (by omega) (fun _ => had) w1 (fun k hk => (hcc k hk).1))
  clear hc
  go_wp2_with fail
  refine HCS.out.mono ?_
  rintro e w2 ⟨rfl, rfl⟩
  go_wp2
  go_ret2
  exact ⟨rfl, T1⟩
set_option maxHeartbeats 1000000 in
theorem implPwd_yes (a b c d : Int) (xs : List Int) (hx : ∀ x ∈ xs, 0 ≤ x) (hn : xs.length ≤ 10000000000) (S : Int) (hS : sumI xs = S) (hS2 : S ≤ 200) (w : World) (hR : ∀ w' : World, Below w.heap.size w w' → Calls Tryd.prog 37 #[(.agg #[.int .i64 a, .int .i64 b, .int .i64 c, .int .i64 d])] w' (RetS xs 0 w')) : Calls Tryd.prog 17 #[(.agg #[.int .i64 a, .int .i64 b, .int .i64 c, .int .i64 d])] w (RetT (spellB [84] [76] xs) 0 w) := by
  have HR := Lib.hid hR
  have HX := Lib.hid hx
  have HS := Lib.hid hS
  clear hR hx hS
  go_enter Tryd.func17, Tryd.ntmps17
  go_wp2_with fail
  refine (HR.out _ (by repeat (first | with_reducible exact own_refl _ | with_reducible assumption | with_reducible apply own_alloc | with_reducible apply own_drewN | with_reducible apply own_drew | ((with_reducible refine own_setCell ?_ ?_ _); rotate_left; focus (first | (simp; done) | (simp; omega))) | (with_reducible (refine own_trans ?_ (by assumption)))))).mono ?_
  rintro e w1 ⟨v, rfl, hs, hb1⟩
  obtain ⟨hu, ad, cap, rfl, hc⟩ := hs
  have T1 : Below w.heap.size w w1 := by repeat (first | with_reducible exact own_refl _ | with_reducible assumption | with_reducible apply own_alloc | with_reducible apply own_drewN | with_reducible apply own_drew | ((with_reducible refine own_setCell ?_ ?_ _); rotate_left; focus (first | (simp; done) | (simp; omega))) | (with_reducible (refine own_trans ?_ (by assumption))))
  have HCS : Hid (Calls Tryd.prog 38 #[.slice ad xs.length cap] w1 fun e w' => e = .returned (.int .i64 S) ∧ w1 = w') := Lib.hid (by
    rcases Nat.eq_zero_or_pos xs.length with h0 | h0
    · exact sumOf_any xs HX.out S HS.out (by omega) 0 0 cap ad (by omega) (fun h => by omega) w1 (fun k hk => by omega)
    · obtain ⟨g, off, had, _, _, hcc⟩ := hc h0
      exact sumOf_any xs HX.out S HS.out (by omega) g off cap ad (by omega) (fun _ => had) w1 (fun k hk => (hcc k hk).1))
  have HCP : Hid (Calls Tryd.prog 39 #[.slice ad xs.length cap, .string ⟨#[84]⟩, .string ⟨#[76]⟩] w1 fun e w' => e = .returned (.string ⟨(spellB [84] [76] xs).toArray⟩) ∧ Below w1.heap.size w1 w') := Lib.hid (by
    rcases Nat.eq_zero_or_pos xs.length with h0 | h0
    · exact spellRuns_any xs HX.out (by rw [HS.out]; exact hS2) ⟨#[84]⟩ ⟨#[76]⟩ (by decide) (by decide) 0 0 cap ad (by omega) (fun h => by omega) w1 (fun h => by omega) (fun k hk => by omega)
    · obtain ⟨g, off, had, _, hgU, hcc⟩ := hc h0
      exact spellRuns_any xs HX.out (by rw [HS.out]; exact hS2) ⟨#[84]⟩ ⟨#[76]⟩ (by decide) (by decide) g off cap ad (by omega) (fun _ => had) w1 (fun _ => by omega) (fun k hk => (hcc k hk).1))
  clear hc
  go_wp2_with fail
  refine HCS.out.mono ?_
  rintro e w2 ⟨rfl, rfl⟩
  go_wp2_with fail
  refine HCP.out.mono ?_
  rintro e w3 ⟨rfl, hb3⟩
  go_wp2
  go_ret2
  exact ⟨rfl, own_trans T1 hb3⟩
end Go.Proofs.YtpglcpolbhlekaaDoor
