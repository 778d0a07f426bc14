/- The walk of the law FnExactLeadByMatrix. -/
import Derived.Test.YtfchfakkbdfajaaDoorLmL
namespace Go.Proofs.YtfchfakkbdfajaaDoor
open Go.ChangeShapes Go.WideShapes Go.ChangeAt Go.RowKit

set_option maxHeartbeats 8000000 in
theorem lawLM_of (s t : List Int) (ad bd : Option Addr) (ca cb : Nat) (a b c d i r kc : Int)
    (hs : ∀ (w : World) (u : Value), Ac w u s t → Calls Tryd.prog 16 #[u, (.agg #[.int .i64 a, .int .i64 b, .int .i64 c, .int .i64 d]), (.int .i64 i)] w (RetLM r kc w))
    (hi : ∀ (w : World) (u : Value), Ac w u s t → MxS w → Calls Tryd.prog 18 #[u, (.agg #[.int .i64 a, .int .i64 b, .int .i64 c, .int .i64 d]), (.int .i64 i)] w (RetLM r kc w)) (w : World)
    (ra : Rs w ad s) (rb : Rs w bd t) (ns : s.length ≤ 9223372036854775807) (nt : t.length ≤ 9223372036854775807) (hid : MxS w) :
    Calls Tryd.prog 5 #[.agg #[.slice ad s.length ca, .slice bd t.length cb], (.agg #[.int .i64 a, .int .i64 b, .int .i64 c, .int .i64 d]), (.int .i64 i)] w fun e w' => e = .returned (.bool true) ∧ Below w.heap.size w w' := by
  by_cases hsz : s.length + t.length ≤ 1048576
  · have HZ := Lib.hid (fun w => szA_yes ad bd s.length t.length ca cb hsz w)
    have HT := Lib.hid (fun w' (h : Below w.heap.size w w') => toAc_any ad bd ca cb s t (by omega) (by omega) w' (ra.below h) (rb.below h))
    have HM := Lib.hid (toMatrix_any a b c d)
    have HE := Lib.hid (fun u v L L' w hu hv => eqA_same u v s t L L' w (by omega) (by omega) hu hv)
    have HS := Lib.hid hs
    have HI := Lib.hid (fun w' u h (hb : Below w.heap.size w w') => hi w' u h (Rd.below hid hb))
    clear hs hi ra rb ns nt hid
    generalize hn : s.length = n at *
    generalize hm : t.length = m at *
    have HN := Lib.hid (And.intro hn hm)
    clear hn hm
    have B0 : Box ((w.alloc (.cells #[.slice ad n ca, .slice bd m cb] 24)).alloc (.cells #[.int .i64 a, .int .i64 b, .int .i64 c, .int .i64 d] 36)) w.heap.size [.slice ad n ca, .slice bd m cb] := (Box.new _ _ _).alloc _
    have C0 : Box ((w.alloc (.cells #[.slice ad n ca, .slice bd m cb] 24)).alloc (.cells #[.int .i64 a, .int .i64 b, .int .i64 c, .int .i64 d] 36)) (w.heap.size + 1) [.int .i64 a, .int .i64 b, .int .i64 c, .int .i64 d] := Box.newAt (by simp) _ _
    have T0 := own_alloc (own_alloc (own_refl w) (.cells #[.slice ad n ca, .slice bd m cb] 24)) (.cells #[.int .i64 a, .int .i64 b, .int .i64 c, .int .i64 d] 36)
    go_enter Tryd.func5, Tryd.ntmps5
    go_wp2_with fail
    refine (HZ.out _).mono ?_
    rintro e w1 ⟨rfl, hb1⟩
    have T1 := own_trans T0 hb1
    have B1 := B0.below hb1
    have C1 := C0.below hb1
    clear hb1 T0 B0 C0
    obtain ⟨-, b0, b1, -, -⟩ := B1.two
    obtain ⟨-, c0, c1, c2, c3, -, -, -, -⟩ := C1.four
    go_upto_region 5 with fail
    go_cut [8, 9] (fun x y wx => x = (.int .i64 r) ∧ y = (.int .i64 kc) ∧ Below w.heap.size w wx ∧ Box wx w.heap.size [.slice ad n ca, .slice bd m cb] ∧ Box wx (w.heap.size + 1) [.int .i64 a, .int .i64 b, .int .i64 c, .int .i64 d])
    case first =>
      go_region_held3 (fun w' => w'.cell? ⟨w.heap.size, 0, none⟩ = some (.slice ad n ca) ∧ w'.cell? ⟨w.heap.size, 1, none⟩ = some (.slice bd m cb) ∧ w'.cell? ⟨w.heap.size + 1, 0, none⟩ = some (.int .i64 a) ∧ w'.cell? ⟨w.heap.size + 1, 1, none⟩ = some (.int .i64 b) ∧ w'.cell? ⟨w.heap.size + 1, 2, none⟩ = some (.int .i64 c) ∧ w'.cell? ⟨w.heap.size + 1, 3, none⟩ = some (.int .i64 d)) (go_keep)
        (first
          | (go_at_call 16; (with_reducible refine (HS.out _ _ W3.ac).mono ?_); rintro e w4 ⟨rfl, hb4⟩; have T4 := own_trans T3 hb4; have B4 := B3.below hb4; have C4 := C3.below hb4; obtain ⟨-, b40, b41, -, -⟩ := B4.two; obtain ⟨-, c40, c41, c42, c43, -, -, -, -⟩ := C4.four; clear hb4)
          | (go_at_call 17; (with_reducible refine (HM.out _).mono ?_); rintro e w3 ⟨rfl, hb3⟩; have T3 := own_trans T2 hb3; have W3 := W2.own hb3; have B3 := B2.below hb3; have C3 := C2.below hb3; obtain ⟨-, b30, b31, -, -⟩ := B3.two; obtain ⟨-, c30, c31, c32, c33, -, -, -, -⟩ := C3.four; clear hb3)
          | (go_at_call 9; (with_reducible refine (HT.out _ U2).mono ?_); rintro e w3 ⟨u3, rfl, W3, hb3⟩; have T3 := own_trans U2 hb3; have B3 := B2.below hb3; have C3 := C2.below hb3; obtain ⟨-, b30, b31, -, -⟩ := B3.two; obtain ⟨-, c30, c31, c32, c33, -, -, -, -⟩ := C3.four; clear hb3)
          | (go_at_call 9; (with_reducible refine (HT.out _ (own_drew T1)).mono ?_); rintro e w2 ⟨u2, rfl, W2, hb2⟩; have T2 := own_trans (own_drew T1) hb2; have B2 := (B1.drew).below hb2; have C2 := (C1.drew).below hb2; obtain ⟨-, b20, b21, -, -⟩ := B2.two; obtain ⟨-, c20, c21, c22, c23, -, -, -, -⟩ := C2.four; clear hb2)
          | (go_at_call 17; (with_reducible refine (HM.out _).mono ?_); rintro e w2 ⟨rfl, hb2⟩; have U2 := own_trans (own_drew T1) hb2; have B2 := (B1.drew).below hb2; have C2 := (C1.drew).below hb2; obtain ⟨-, b20, b21, -, -⟩ := B2.two; obtain ⟨-, c20, c21, c22, c23, -, -, -, -⟩ := C2.four; clear hb2))
      all_goals
        go_wp2_with fail
        go_meet
        exact ⟨rfl, rfl, T4, B4, C4⟩
    case rest =>
      clear T1 B1 C1 b0 b1 c0 c1 c2 c3
      obtain ⟨rfl, rfl, T, B, C⟩ := hcut
      obtain ⟨-, b0, b1, -, -⟩ := B.two
      go_wp2_with fail
      refine (HT.out _ T).mono ?_
      rintro e w4 ⟨u4, rfl, hA4, hb4⟩
      have T4 := own_trans T hb4
      have B4 := B.below hb4
      have C4 := C.below hb4
      obtain ⟨a4, c4, b4, d4, e4⟩ := hA4.shape
      rw [HN.out.1, HN.out.2] at e4
      subst e4
      have X5 := hA4.own (own_alloc (own_refl w4) (.cells #[.slice a4 n c4, .slice b4 m d4] 28))
      have T5 := own_alloc T4 (.cells #[.slice a4 n c4, .slice b4 m d4] 28)
      have D5 : Box (w4.alloc (.cells #[.slice a4 n c4, .slice b4 m d4] 28)) w4.heap.size [.slice a4 n c4, .slice b4 m d4] := Box.new _ _ _
      have B5 := B4.alloc (.cells #[.slice a4 n c4, .slice b4 m d4] 28)
      have C5 := C4.alloc (.cells #[.slice a4 n c4, .slice b4 m d4] 28)
      clear hA4 hb4 B4 C4 T4 b0 b1 T B C
      go_upto_region 7 with fail
      generalize w4.alloc (.cells #[.slice a4 n c4, .slice b4 m d4] 28) = w5 at *
      generalize w4.heap.size = gx at *
      obtain ⟨-, d0, d1, -, -⟩ := D5.two
      obtain ⟨-, c0, c1, c2, c3, -, -, -, -⟩ := C5.four
      go_cut [11, 12] (fun x y wx => x = (.int .i64 r) ∧ y = (.int .i64 kc) ∧ Below w.heap.size w wx ∧ Box wx w.heap.size [.slice ad n ca, .slice bd m cb] ∧ Box wx gx [.slice a4 n c4, .slice b4 m d4] ∧ ∃ U, AcR wx U (.agg #[.slice a4 n c4, .slice b4 m d4]) s t)
      case first =>
        go_region_held3 (fun w' => w'.cell? ⟨gx, 0, none⟩ = some (.slice a4 n c4) ∧ w'.cell? ⟨gx, 1, none⟩ = some (.slice b4 m d4) ∧ w'.cell? ⟨w.heap.size + 1, 0, none⟩ = some (.int .i64 a) ∧ w'.cell? ⟨w.heap.size + 1, 1, none⟩ = some (.int .i64 b) ∧ w'.cell? ⟨w.heap.size + 1, 2, none⟩ = some (.int .i64 c) ∧ w'.cell? ⟨w.heap.size + 1, 3, none⟩ = some (.int .i64 d)) (go_keep)
          (first
            | (go_at_call 18; (with_reducible refine (HI.out _ _ X6.ac T6).mono ?_); rintro e w7 ⟨rfl, hb7⟩; have T7 := own_trans T6 hb7; have X7 := X6.own hb7; have B7 := B6.below hb7; have C7 := C6.below hb7; have D7 := D6.below hb7; obtain ⟨-, d70, d71, -, -⟩ := D7.two; obtain ⟨-, c70, c71, c72, c73, -, -, -, -⟩ := C7.four; clear hb7)
            | (go_at_call 17; (with_reducible refine (HM.out _).mono ?_); rintro e w6 ⟨rfl, hb6⟩; have T6 := own_trans (own_drew T5) hb6; have X6 := (X5.drew).own hb6; have B6 := (B5.drew).below hb6; have C6 := (C5.drew).below hb6; have D6 := (D5.drew).below hb6; obtain ⟨-, d60, d61, -, -⟩ := D6.two; obtain ⟨-, c60, c61, c62, c63, -, -, -, -⟩ := C6.four; clear hb6))
        all_goals
          go_wp2_with fail
          go_meet
          exact ⟨rfl, rfl, T7, B7, D7, ⟨_, X7⟩⟩
      case rest =>
        clear T5 B5 C5 D5 X5 d0 d1 c0 c1 c2 c3
        obtain ⟨rfl, rfl, T, B, D, U, X⟩ := hcut
        obtain ⟨-, b0, b1, -, -⟩ := B.two
        obtain ⟨-, d0, d1, -, -⟩ := D.two
        go_upto_region 10 with fail
        go_region_held3 (fun w' => w'.cell? ⟨gx, 0, none⟩ = some (.slice a4 n c4) ∧ w'.cell? ⟨gx, 1, none⟩ = some (.slice b4 m d4) ∧ w'.cell? ⟨w.heap.size, 0, none⟩ = some (.slice ad n ca) ∧ w'.cell? ⟨w.heap.size, 1, none⟩ = some (.slice bd m cb)) (go_keep)
          (first
            | (go_at_call 11; (with_reducible refine (HE.out _ _ _ _ _ X9 R9).mono ?_); rintro e wA ⟨rfl, hbA⟩; have TA := own_trans T9 hbA; have BA := B9.below hbA; have DA := D9.below hbA; obtain ⟨-, bA0, bA1, -, -⟩ := BA.two; obtain ⟨-, dA0, dA1, -, -⟩ := DA.two; clear hbA)
            | (go_at_call 9; (with_reducible refine (HT.out _ (own_drew T)).mono ?_); rintro e w9 ⟨u9, rfl, R9, hb9⟩; have T9 := own_trans (own_drew T) hb9; have X9 := (X.drew).own hb9; have B9 := (B.drew).below hb9; have D9 := (D.drew).below hb9; obtain ⟨-, b90, b91, -, -⟩ := B9.two; obtain ⟨-, d90, d91, -, -⟩ := D9.two; clear hb9))
        all_goals
          go_wp2
          go_ret
          exact ⟨rfl, by first | exact TA | exact own_drew TA⟩
  · have HZ := Lib.hid (fun w => szA_no ad bd s.length t.length ca cb (by omega) (by omega) hsz w)
    clear hs hi ra rb
    generalize s.length = n at *
    generalize t.length = m at *
    go_enter Tryd.func5, Tryd.ntmps5
    go_wp2_with fail
    refine (HZ.out _).mono ?_
    rintro e w1 ⟨rfl, hb1⟩
    go_wp2
    go_ret
    exact ⟨rfl, by repeat (first | with_reducible exact own_refl _ | with_reducible assumption | with_reducible apply own_alloc | with_reducible apply own_drewN | with_reducible apply own_drew | ((with_reducible refine own_setCell ?_ ?_ _); rotate_left; focus (first | (simp; done) | (simp; omega))) | (with_reducible (refine own_trans ?_ (by assumption))))⟩
theorem lawLeadByMatrix_walk (s t : List Int) (ad bd : Option Addr) (ca cb : Nat) (a b c d i : Int) (w : World) (ra : Rs w ad s) (rb : Rs w bd t) (ns : s.length ≤ 9223372036854775807) (nt : t.length ≤ 9223372036854775807) (_ : I64 a) (_ : I64 b) (_ : I64 c) (_ : I64 d) (_ : I64 i) (hid : MxS w) :
    Calls Tryd.prog 5 #[.agg #[.slice ad s.length ca, .slice bd t.length cb], (.agg #[.int .i64 a, .int .i64 b, .int .i64 c, .int .i64 d]), (.int .i64 i)] w fun e w' => e = .returned (.bool true) ∧ Below w.heap.size w w' :=
  lawLM_of s t ad bd ca cb a b c d i _ _ (fun w u h => LMs_is s t ns a b c d i u w h) (fun w u h h1 => LMi_is s t ns a b c d i u w h h1) w ra rb ns nt hid
end Go.Proofs.YtfchfakkbdfajaaDoor
