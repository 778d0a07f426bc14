/- The walk of the law FnExactRelationsOf. -/
import Derived.Test.YtejghidllochoaaDoorRlS
import Derived.Test.YtejghidllochoaaDoorMxU
namespace Go.Proofs.YtejghidllochoaaDoor
open Go.ChangeShapes Go.WideShapes Go.ChangeAt Go.RowKit

theorem specRel_no (n c : Int) (hc : lvC n = c) (h0 : c ≠ 0) (w : World) : Calls Tryd.prog 10 #[(.int .i64 n)] w fun e w' => e = .returned (.tuple #[.slice none 0 0, (.int .i64 c)]) ∧ Below w.heap.size w w' := by
  have HC := Lib.hid hc
  have hne : (c != 0) = true := by simpa using h0
  clear hc h0
  go_enter Tryd.func10, Tryd.ntmps10
  go_wp2_with fail
  refine (l08Code_is n c HC.out _).mono ?_
  rintro e w2 ⟨rfl, hb2⟩
  go_wp2
  go_ret2
  exact ⟨rfl, hb2⟩
theorem relN {n : Int} (hn : lvC n = 0) : 1 ≤ n ∧ n ≤ 60 ∧ (ln n).length ≤ 72 ∧ 0 < (ln n).length := by
  have hn' : 1 ≤ n ∧ n ≤ 60 := of_decide_eq_true (lvC_0 hn).1
  refine ⟨hn'.1, hn'.2, (lvC_len hn).2, ?_⟩
  obtain ⟨K, hK, _⟩ := nrm_in hn'.1 (show isP n 0 1 = true by simp [isP])
  omega
theorem specRel_yes (n : Int) (hn : lvC n = 0) (N : Nat) (hN : (ln n).length = N) (w : World) : Calls Tryd.prog 10 #[(.int .i64 n)] w fun e w' => ∃ v vs, e = .returned (.tuple #[v, (.int .i64 0)]) ∧ MixU w' w'.heap.size v (N + N) vs (rel n N) ∧ Below w.heap.size w w' := by
  obtain ⟨h1, h2, h3, h4⟩ := relN hn
  have H0 := Lib.hid hn
  have HL := Lib.hid (fun w => l06Line_is n h1 h2 w)
  rw [hN] at h3 h4
  have HR := Lib.hid (fun v L w hG => l08Relations_is n h1 h2 N hN h3 h4 v L w hG)
  clear hn h1 h2 h3 h4 hN
  go_enter Tryd.func10, Tryd.ntmps10
  go_wp2_with fail
  refine (l08Code_is n 0 H0.out _).mono ?_
  rintro e w2 ⟨rfl, hb2⟩
  go_wp2_with fail
  refine (HL.out _).mono ?_
  rintro e w3 ⟨v, rfl, hG3, hb3⟩
  go_wp2_with fail
  refine (HR.out _ _ _ hG3).mono ?_
  rintro e w4 ⟨v4, vs, rfl, hG4, hb4⟩
  go_wp2
  go_ret2
  exact ⟨v4, _, rfl, hG4.mixU (by simp [relSs_len, relUs_len]) (fun j hj => rels_at n N j hj), own_trans hb2 (own_trans hb3 hb4)⟩
set_option maxHeartbeats 1000000 in
theorem lawRelationsOf_no (n : Int) (xss : List (List Int)) (k : Int) (hn : xss.length ≤ 1000000) (hM : sumL xss ≤ 1000000) (hm : ∀ xs ∈ xss, xs.length ≤ 1000000)
    (hs : ∀ w : World, Calls Tryd.prog 10 #[(.int .i64 n)] w (RetSS xss k w))
    (hi : ∀ w : World, Calls Tryd.prog 11 #[(.int .i64 n)] w (RetSS xss k w)) (w : World) :
    Calls Tryd.prog 3 #[(.int .i64 n)] w fun e w' => e = .returned (.bool true) ∧ Below w.heap.size w w' := by
  have HS := Lib.hid hs
  have HI := Lib.hid hi
  have HM := Lib.hid hm
  clear hs hi hm
  go_enter Tryd.func3, Tryd.ntmps3
  go_wp2_with fail
  refine (HS.out _).mono ?_
  rintro e w2 ⟨v0, rfl, s0, hb2⟩
  go_wp2_with fail
  refine (HI.out _).mono ?_
  rintro e w4 ⟨v1, rfl, s1, hb4⟩
  have s04 := s0.own hb4
  go_wp2_with fail
  refine (eqSS_same _ _ xss _ _ _ hn HM.out s1 s04).mono ?_
  rintro e w5 ⟨rfl, hb5⟩
  have s15 := s1.own hb5
  have z4 := hb4.size
  have z5 := hb5.size
  have t25 := own_trans hb4 hb5
  go_wp2_with fail
  refine (markSS_any _ xss 1 _ _ hn hM (by omega) (by omega) (by omega) s15).mono ?_
  rintro e w6 ⟨rfl, s16, hb6⟩
  have z6 := hb6.size
  have t26 := t25.trans hb6
  go_wp2_with fail
  refine (heldSS_mk _ xss 1 _ _ hn hM (by omega) (by omega) s16).mono ?_
  rintro e w7 ⟨rfl, rfl⟩
  go_wp2_with fail
  refine (HI.out _).mono ?_
  rintro e w9 ⟨v2, rfl, s2, hb9⟩
  have s09 := s0.own (own_trans t26 hb9)
  have s19 := s16.own hb9
  go_wp2_with fail
  refine (eqSS_same _ _ xss _ _ _ hn HM.out s2 s09).mono ?_
  rintro e w10 ⟨rfl, hb10⟩
  have s110 := s19.own hb10
  go_wp2_with fail
  refine (heldSS_mk _ xss 1 _ _ hn hM (by omega) (by omega) s110).mono ?_
  rintro e w11 ⟨rfl, rfl⟩
  go_wp2
  go_ret
  exact ⟨rfl, own_trans hb2 (own_trans (own_trans t26 hb9) hb10)⟩

set_option maxHeartbeats 1000000 in
theorem lawRelationsOf_yes (n : Int) (hn : lvC n = 0) (N : Nat) (hN : (ln n).length = N) (w : World) (hid : Idn w) (hmx : MxS w) :
    Calls Tryd.prog 3 #[(.int .i64 n)] w fun e w' => e = .returned (.bool true) ∧ Below w.heap.size w w' := by
  obtain ⟨_, _, h3, h4⟩ := relN hn
  rw [hN] at h3 h4
  obtain ⟨T, hT⟩ : ∃ T, (N + N) * N = T := ⟨_, rfl⟩
  have hTb : T ≤ 144 * 72 := by rw [← hT]; exact Nat.mul_le_mul (by omega) h3
  have HS := Lib.hid (fun w => specRel_yes n hn N hN w)
  have HI := Lib.hid (fun w h1 h2 => implRel_yes n hn N hN w h1 h2)
  have HM := Lib.hid (And.intro hid hmx)
  have HL := Lib.hid (fun k => rel_len n N k)
  have HT := Lib.hid hT
  clear hn hN hid hmx hT
  go_enter Tryd.func3, Tryd.ntmps3
  go_wp2_with fail
  refine (HS.out _).mono ?_
  rintro e w2 ⟨v0, vs0, rfl, s0, hb2⟩
  go_wp2_with fail
  refine (HI.out _ (Rd.below HM.out.1 hb2) (Rd.below HM.out.2 hb2)).mono ?_
  rintro e w4 ⟨v1, g1, xs1, rfl, F1, R1, hb4⟩
  have M1 := F1.mixU R1 (fun j _ => HL.out j) (by omega) h4
  have s04 := s0.own hb4
  go_wp2_with fail
  refine (eqSSU _ _ (N + N) _ _ _ _ (rel _ N) _ (by omega) (fun k _ => by rw [HL.out]; omega) M1 s04).mono ?_
  rintro e w5 ⟨rfl, hb5⟩
  have F15 := F1.own hb5
  have s05 := s04.own hb5
  have t25 := own_trans hb4 hb5
  have z2 := hb2.size
  have z25 := t25.size
  have zg := (F15.cells (by have := idx_lt (N := N) (M := N + N) (j := 0) (i := 0) (by omega) h4; omega)).1
  go_wp2_with fail
  refine (markFlat xs1 _ g1 N (N + N) T _ (rel _ N) _ HT.out (by omega) h4 (by omega) (by omega) F15 R1).mono ?_
  rintro e w6 ⟨rfl, ⟨ys, F6, R6⟩, hg6⟩
  have M6 := F6.mixU R6 (fun j _ => by simp [mkF, ramp_length]) (by omega) h4
  have b6 : Below w2.heap.size w2 w6 := t25.grown hg6 z25 (fun j e => by injection e with e; omega)
  have b56 : Below w2.heap.size w5 w6 := (Below.refl _ _).grown hg6 z25 (fun j e => by injection e with e; omega)
  have s06 := s05.below b56
  go_wp2_with fail
  refine (heldFlat _ _ N (N + N) T _ _ HT.out (by omega) (by omega) (by omega) M6).mono ?_
  rintro e w7 ⟨rfl, rfl⟩
  have t6 := own_trans hb2 b6
  go_wp2_with fail
  refine (HI.out _ (Rd.below HM.out.1 t6) (Rd.below HM.out.2 t6)).mono ?_
  rintro e w9 ⟨v2, g2, xs2, rfl, F2, R2, hb9⟩
  have M2 := F2.mixU R2 (fun j _ => HL.out j) (by omega) h4
  have s09 := s06.below (hb9.mono (by have := b6.size; omega))
  have M9 := M6.own hb9
  go_wp2_with fail
  refine (eqSSU _ _ (N + N) _ _ _ _ (rel _ N) _ (by omega) (fun k _ => by rw [HL.out]; omega) M2 s09).mono ?_
  rintro e w10 ⟨rfl, hb10⟩
  have M10 := M9.own hb10
  go_wp2_with fail
  refine (heldFlat _ _ N (N + N) T _ _ HT.out (by omega) (by omega) (by omega) M10).mono ?_
  rintro e w11 ⟨rfl, rfl⟩
  go_wp2
  go_ret
  exact ⟨rfl, own_trans t6 (own_trans hb9 hb10)⟩
theorem lawRelationsOf_walk (n : Int) (_ : I64 n) (w : World) (hmx : MxS w) (hid : Idn w) :
    Calls Tryd.prog 3 #[(.int .i64 n)] w fun e w' => e = .returned (.bool true) ∧ Below w.heap.size w w' := by
  by_cases h : lvC n = 0
  · exact lawRelationsOf_yes n h _ rfl w hid hmx
  · exact lawRelationsOf_no n [] (lvC n) (by simp) (by simp [sumL]) (by simp)
      (fun w => (specRel_no n _ rfl h w).mono (by rintro e w' ⟨rfl, hb⟩; exact ⟨_, rfl, GrSS.nil _ _, hb⟩))
      (fun w => (implRel_no n _ rfl h w).mono (by rintro e w' ⟨rfl, hb⟩; exact ⟨_, rfl, GrSS.nil _ _, hb⟩)) w
end Go.Proofs.YtejghidllochoaaDoor
