/- The walk of the law FnExactLineOf, where both sides answer alike. -/
import Derived.Test.YtmijmlngbahaaaaLnO
import Derived.Test.YtmijmlngbahaaaaMS
namespace Go.Proofs.Ytmijmlngbahaaaa
open Go.ChangeShapes Go.WideShapes Go.ChangeAt Go.RowKit

set_option maxHeartbeats 1000000 in
theorem lawLineOf_of (n : Int) (xss : List (List Int)) (k : Int) (hn : xss.length ≤ 1000000) (hM : sumL xss ≤ 1000000) (hm : ∀ xs ∈ xss, xs.length ≤ 1000000)
    (hs : ∀ w : World, Calls Try.prog 18 #[(.int .i64 n)] w (RetSS xss k w))
    (hi : ∀ w : World, Calls Try.prog 19 #[(.int .i64 n)] w (RetSS xss k w)) (w : World) :
    Calls Try.prog 6 #[(.int .i64 n)] w fun e w' => e = .returned (.bool true) ∧ Below w.heap.size w w' := by
  have HS := Lib.hid hs
  have HI := Lib.hid hi
  have HM := Lib.hid hm
  clear hs hi hm
  go_enter Try.func6, Try.ntmps6
  go_wp2_with fail
  refine (HS.out _).mono ?_
  rintro e w2 ⟨v0, rfl, s0, hb2⟩
  go_wp2_with fail
  refine (HI.out _).mono ?_
  rintro e w4 ⟨v1, rfl, s1, hb4⟩
  have s04 := s0.own hb4
  go_wp2_with fail
  refine (eqSS_same _ _ xss _ _ _ hn HM.out s1 s04).mono ?_
  rintro e w5 ⟨rfl, hb5⟩
  have s15 := s1.own hb5
  have z4 := hb4.size
  have z5 := hb5.size
  have t25 := own_trans hb4 hb5
  go_wp2_with fail
  refine (markSS_any _ xss 1 _ _ hn hM (by omega) (by omega) (by omega) s15).mono ?_
  rintro e w6 ⟨rfl, s16, hb6⟩
  have z6 := hb6.size
  have t26 := t25.trans hb6
  go_wp2_with fail
  refine (heldSS_mk _ xss 1 _ _ hn hM (by omega) (by omega) s16).mono ?_
  rintro e w7 ⟨rfl, rfl⟩
  go_wp2_with fail
  refine (HI.out _).mono ?_
  rintro e w9 ⟨v2, rfl, s2, hb9⟩
  have s09 := s0.own (own_trans t26 hb9)
  have s19 := s16.own hb9
  go_wp2_with fail
  refine (eqSS_same _ _ xss _ _ _ hn HM.out s2 s09).mono ?_
  rintro e w10 ⟨rfl, hb10⟩
  have s110 := s19.own hb10
  go_wp2_with fail
  refine (heldSS_mk _ xss 1 _ _ hn hM (by omega) (by omega) s110).mono ?_
  rintro e w11 ⟨rfl, rfl⟩
  go_wp2
  go_ret
  exact ⟨rfl, own_trans hb2 (own_trans (own_trans t26 hb9) hb10)⟩
end Go.Proofs.Ytmijmlngbahaaaa
