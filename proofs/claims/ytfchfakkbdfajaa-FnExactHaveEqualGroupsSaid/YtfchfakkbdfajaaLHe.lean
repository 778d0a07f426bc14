/- The walk of the law FnExactHaveEqualGroups. -/
import Derived.Test.YtfchfakkbdfajaaAcX
namespace Go.Proofs.Ytfchfakkbdfajaa
open Go.ChangeShapes Go.WideShapes Go.ChangeAt Go.RowKit

set_option maxHeartbeats 1000000 in
theorem szA_any (a b : Option Addr) (n m ca cb l : Nat) (hl : l ≤ 1048576) (hn : n ≤ 9223372036854775807) (hm : m ≤ 9223372036854775807) (w : World) :
    Calls Try.prog 11 #[.agg #[.slice a n ca, .slice b m cb], (.int .i64 ((l : Int)))] w fun e w' => e = .returned (.int .i64 (if n + m ≤ l then (((l - n - m : Nat)) : Int) else -1)) ∧ Below w.heap.size w w' := by
  have HA := Lib.hid (szI_any a n ca l hn hl)
  by_cases h1 : n ≤ l
  · obtain ⟨k, hk⟩ : ∃ k : Nat, l - n = k := ⟨_, rfl⟩
    have HB := Lib.hid (szI_any b m cb k hm (by omega))
    rw [if_pos h1, show (l : Int) - n = k by omega] at HA
    by_cases h2 : n + m ≤ l
    · rw [if_pos (show m ≤ k by omega)] at HB
      rw [if_pos h2]
      have e : (k : Int) - m = ((l - n - m : Nat) : Int) := by omega
      rw [e] at HB
      generalize l - n - m = r at *
      clear h1 h2 hk e
      go_enter Try.func11, Try.ntmps11
      go_wp2_with fail
      refine (HA.out _).mono ?_
      rintro e w2 ⟨rfl, rfl⟩
      go_wp2_with fail
      refine (HB.out _).mono ?_
      rintro e w2 ⟨rfl, rfl⟩
      go_wp2
      go_ret
      exact ⟨rfl, by repeat (first | with_reducible exact own_refl _ | with_reducible assumption | with_reducible apply own_alloc | with_reducible apply own_drewN | with_reducible apply own_drew | ((with_reducible refine own_setCell ?_ ?_ _); rotate_left; focus (first | (simp; done) | (simp; omega))) | (with_reducible (refine own_trans ?_ (by assumption))))⟩
    · rw [if_neg (show ¬ m ≤ k by omega)] at HB
      rw [if_neg h2]
      clear h1 h2 hk
      go_enter Try.func11, Try.ntmps11
      go_wp2_with fail
      refine (HA.out _).mono ?_
      rintro e w2 ⟨rfl, rfl⟩
      go_wp2_with fail
      refine (HB.out _).mono ?_
      rintro e w2 ⟨rfl, rfl⟩
      go_wp2
      go_ret
      exact ⟨rfl, by repeat (first | with_reducible exact own_refl _ | with_reducible assumption | with_reducible apply own_alloc | with_reducible apply own_drewN | with_reducible apply own_drew | ((with_reducible refine own_setCell ?_ ?_ _); rotate_left; focus (first | (simp; done) | (simp; omega))) | (with_reducible (refine own_trans ?_ (by assumption))))⟩
  · rw [if_neg h1] at HA
    rw [if_neg (show ¬ n + m ≤ l by omega)]
    clear h1
    go_enter Try.func11, Try.ntmps11
    go_wp2_with fail
    refine (HA.out _).mono ?_
    rintro e w2 ⟨rfl, rfl⟩
    go_wp2
    go_ret
    exact ⟨rfl, by repeat (first | with_reducible exact own_refl _ | with_reducible assumption | with_reducible apply own_alloc | with_reducible apply own_drewN | with_reducible apply own_drew | ((with_reducible refine own_setCell ?_ ?_ _); rotate_left; focus (first | (simp; done) | (simp; omega))) | (with_reducible (refine own_trans ?_ (by assumption))))⟩
set_option maxHeartbeats 8000000 in
theorem lawHE_of (s t s' t' : List Int) (ad bd ad' bd' : Option Addr) (ca cb ca' cb' : Nat) (r : Bool) (kc : Int)
    (hs : ∀ (u v : Value) (w : World), Ac w u s t → Ac w v s' t' → Calls Try.prog 34 #[u, v] w fun e w' => e = .returned (.tuple #[.bool r, (.int .i64 kc)]) ∧ Below w.heap.size w w')
    (hi : ∀ (u v : Value) (w : World), Ac w u s t → Ac w v s' t' → Calls Try.prog 35 #[u, v] w fun e w' => e = .returned (.tuple #[.bool r, (.int .i64 kc)]) ∧ Below w.heap.size w w') (w : World)
    (ra : Rs w ad s) (rb : Rs w bd t) (ra' : Rs w ad' s') (rb' : Rs w bd' t') (n1 : s.length ≤ 9223372036854775807) (n2 : t.length ≤ 9223372036854775807) (n3 : s'.length ≤ 9223372036854775807) (n4 : t'.length ≤ 9223372036854775807) :
    Calls Try.prog 9 #[.agg #[.slice ad s.length ca, .slice bd t.length cb], .agg #[.slice ad' s'.length ca', .slice bd' t'.length cb']] w fun e w' => e = .returned (.bool true) ∧ Below w.heap.size w w' := by
  have HZ1 := Lib.hid (fun w => szA_any ad bd s.length t.length ca cb 1048576 (by omega) n1 n2 w)
  by_cases h1 : s.length + t.length ≤ 1048576
  · obtain ⟨l, hl⟩ : ∃ l, 1048576 - s.length - t.length = l := ⟨_, rfl⟩
    have HZ2 := Lib.hid (fun w => szA_any ad' bd' s'.length t'.length ca' cb' l (by omega) n3 n4 w)
    rw [if_pos h1, hl] at HZ1
    by_cases h2 : s'.length + t'.length ≤ l
    · rw [if_pos h2] at HZ2
      have HT1 := Lib.hid (fun w' (h : Below w.heap.size w w') => toAc_any ad bd ca cb s t (by omega) (by omega) w' (ra.below h) (rb.below h))
      have HT2 := Lib.hid (fun w' (h : Below w.heap.size w w') => toAc_any ad' bd' ca' cb' s' t' (by omega) (by omega) w' (ra'.below h) (rb'.below h))
      have HE1 := Lib.hid (fun u v L L' w hu hv => eqA_same u v s t L L' w (by omega) (by omega) hu hv)
      have HE2 := Lib.hid (fun u v L L' w hu hv => eqA_same u v s' t' L L' w (by omega) (by omega) hu hv)
      have HS := Lib.hid hs
      have HI := Lib.hid hi
      generalize l - s'.length - t'.length = l2 at *
      clear hs hi ra rb ra' rb' n1 n2 n3 n4 h1 h2 hl
      generalize hn : s.length = n at *
      generalize hm : t.length = m at *
      generalize hp : s'.length = p at *
      generalize hq : t'.length = q at *
      have HN := Lib.hid (And.intro hn (And.intro hm (And.intro hp hq)))
      clear hn hm hp hq
      go_enter Try.func9, Try.ntmps9
      go_wp2_with fail
      refine (HZ1.out _).mono ?_
      rintro e w1 ⟨rfl, hb1⟩
      have Bw1_0 : Box w1 (w.heap.size) [.slice ad n ca, .slice bd m cb] := by refine Box.below ?_ hb1; repeat (first | with_reducible assumption | with_reducible exact Box.new _ _ _ | (with_reducible refine Box.newAt ?_ _ _; (simp; done)) | with_reducible apply Box.alloc | with_reducible apply Box.drewN | with_reducible apply Box.drew)
      obtain ⟨_, _, _, _, _⟩ := Bw1_0.two
      have Bw1_1 : Box w1 (w.heap.size + 1) [.slice ad' p ca', .slice bd' q cb'] := by refine Box.below ?_ hb1; repeat (first | with_reducible assumption | with_reducible exact Box.new _ _ _ | (with_reducible refine Box.newAt ?_ _ _; (simp; done)) | with_reducible apply Box.alloc | with_reducible apply Box.drewN | with_reducible apply Box.drew)
      obtain ⟨_, _, _, _, _⟩ := Bw1_1.two
      have T1 : Below w.heap.size w w1 := by repeat (first | with_reducible exact own_refl _ | with_reducible assumption | with_reducible apply own_alloc | with_reducible apply own_drewN | with_reducible apply own_drew | ((with_reducible refine own_setCell ?_ ?_ _); rotate_left; focus (first | (simp; done) | (simp; omega))) | (with_reducible (refine own_trans ?_ (by assumption))))
      go_wp2_with fail
      refine (HZ2.out _).mono ?_
      rintro e w2 ⟨rfl, hb2⟩
      have T2 := own_trans T1 hb2
      have B2 := Bw1_0.below hb2
      have C2 := Bw1_1.below hb2
      obtain ⟨-, b20, b21, -, -⟩ := B2.two
      obtain ⟨-, c20, c21, -, -⟩ := C2.two
      clear hb1 hb2 Bw1_0 Bw1_1 T1
      go_upto_region 8 with fail
      go_cut [6, 7] (fun x y wx => x = .bool r ∧ y = (.int .i64 kc) ∧ Below w.heap.size w wx ∧ Box wx w.heap.size [.slice ad n ca, .slice bd m cb] ∧ Box wx (w.heap.size + 1) [.slice ad' p ca', .slice bd' q cb'])
      case first =>
        go_region_held3 (fun w' => w'.cell? ⟨w.heap.size, 0, none⟩ = some (.slice ad n ca) ∧ w'.cell? ⟨w.heap.size, 1, none⟩ = some (.slice bd m cb) ∧ w'.cell? ⟨w.heap.size + 1, 0, none⟩ = some (.slice ad' p ca') ∧ w'.cell? ⟨w.heap.size + 1, 1, none⟩ = some (.slice bd' q cb')) (go_keep)
          (first
            | (go_at_call 34; (with_reducible refine (HS.out _ _ _ W1.ac W2.ac).mono ?_); rintro e w6 ⟨rfl, hb6⟩; have T6 := own_trans T5 hb6; have B6 := B5.below hb6; have C6 := C5.below hb6; obtain ⟨-, b60, b61, -, -⟩ := B6.two; obtain ⟨-, c60, c61, -, -⟩ := C6.two; clear hb6)
            | (go_at_call 13; (with_reducible refine (HT2.out _ T4).mono ?_); rintro e w5 ⟨v2, rfl, W2, hb5⟩; have W1 := W4.own hb5; have T5 := own_trans T4 hb5; have B5 := B4.below hb5; have C5 := C4.below hb5; obtain ⟨-, b50, b51, -, -⟩ := B5.two; obtain ⟨-, c50, c51, -, -⟩ := C5.two; clear hb5)
            | (go_at_call 13; (with_reducible refine (HT1.out _ U4).mono ?_); rintro e w5 ⟨v1, rfl, W1, hb5⟩; have W2 := X4.own hb5; have T5 := own_trans U4 hb5; have B5 := B4.below hb5; have C5 := C4.below hb5; obtain ⟨-, b50, b51, -, -⟩ := B5.two; obtain ⟨-, c50, c51, -, -⟩ := C5.two; clear hb5)
            | (go_at_call 13; (with_reducible refine (HT1.out _ (own_drew T2)).mono ?_); rintro e w4 ⟨v1, rfl, W4, hb4⟩; have T4 := own_trans (own_drew T2) hb4; have B4 := (B2.drew).below hb4; have C4 := (C2.drew).below hb4; obtain ⟨-, b40, b41, -, -⟩ := B4.two; obtain ⟨-, c40, c41, -, -⟩ := C4.two; clear hb4)
            | (go_at_call 13; (with_reducible refine (HT2.out _ (own_drew T2)).mono ?_); rintro e w4 ⟨v2, rfl, X4, hb4⟩; have U4 := own_trans (own_drew T2) hb4; have B4 := (B2.drew).below hb4; have C4 := (C2.drew).below hb4; obtain ⟨-, b40, b41, -, -⟩ := B4.two; obtain ⟨-, c40, c41, -, -⟩ := C4.two; clear hb4))
        all_goals
          go_wp2_with fail
          go_meet
          exact ⟨rfl, rfl, T6, B6, C6⟩
      case rest =>
        clear T2 B2 C2 b20 b21 c20 c21
        obtain ⟨rfl, rfl, T, B, C⟩ := hcut
        obtain ⟨-, b0, b1, -, -⟩ := B.two
        obtain ⟨-, c0, c1, -, -⟩ := C.two
        go_wp2_with fail
        refine (HT1.out _ T).mono ?_
        rintro e w4 ⟨u4, rfl, hA4, hb4⟩
        have T4 := own_trans T hb4
        have B4 := B.below hb4
        have C4 := C.below hb4
        obtain ⟨a4, c4, b4, d4, e4⟩ := hA4.shape
        subst e4
        rw [HN.out.1, HN.out.2.1] at *
        have X5 := hA4.own (own_alloc (own_refl w4) (.cells #[.slice a4 n c4, .slice b4 m d4] 27))
        have T5 := own_alloc T4 (.cells #[.slice a4 n c4, .slice b4 m d4] 27)
        have D5 : Box (w4.alloc (.cells #[.slice a4 n c4, .slice b4 m d4] 27)) w4.heap.size [.slice a4 n c4, .slice b4 m d4] := Box.new _ _ _
        have B5 := B4.alloc (.cells #[.slice a4 n c4, .slice b4 m d4] 27)
        have C5 := C4.alloc (.cells #[.slice a4 n c4, .slice b4 m d4] 27)
        have hg1 : w.heap.size + 1 < w4.heap.size := C4.1
        clear hA4 hb4 B4 C4 T4 b0 b1 c0 c1 T B C
        go_upto_region 10 with fail
        generalize w4.alloc (.cells #[.slice a4 n c4, .slice b4 m d4] 27) = w5 at *
        generalize w4.heap.size = gx at *
        obtain ⟨-, c0, c1, -, -⟩ := C5.two
        go_wp2_with fail
        refine (HT2.out _ T5).mono ?_
        rintro e w6 ⟨u6, rfl, hA6, hb6⟩
        obtain ⟨a6, c6, b6, d6, e6⟩ := hA6.shape
        subst e6
        rw [HN.out.2.2.1, HN.out.2.2.2] at *
        have X6 := X5.own hb6
        have T6 := own_trans T5 hb6
        have D6 := D5.below hb6
        have B6 := B5.below hb6
        have C6 := C5.below hb6
        have hg2 : gx < w6.heap.size := D6.1
        have X7 := X6.own (own_alloc (own_refl w6) (.cells #[.slice a6 p c6, .slice b6 q d6] 27))
        have Y7 := hA6.own (own_alloc (own_refl w6) (.cells #[.slice a6 p c6, .slice b6 q d6] 27))
        have T7 := own_alloc T6 (.cells #[.slice a6 p c6, .slice b6 q d6] 27)
        have E7 : Box (w6.alloc (.cells #[.slice a6 p c6, .slice b6 q d6] 27)) w6.heap.size [.slice a6 p c6, .slice b6 q d6] := Box.new _ _ _
        have D7 := D6.alloc (.cells #[.slice a6 p c6, .slice b6 q d6] 27)
        have B7 := B6.alloc (.cells #[.slice a6 p c6, .slice b6 q d6] 27)
        have C7 := C6.alloc (.cells #[.slice a6 p c6, .slice b6 q d6] 27)
        clear hA6 hb6 X5 X6 T5 T6 D5 D6 B5 B6 C5 C6 c0 c1
        go_upto_region 11 with fail
        generalize w6.alloc (.cells #[.slice a6 p c6, .slice b6 q d6] 27) = w7 at *
        generalize w6.heap.size = gy at *
        obtain ⟨-, d0, d1, -, -⟩ := D7.two
        obtain ⟨-, e0, e1, -, -⟩ := E7.two
        go_wp2_with fail
        refine (HI.out _ _ _ X7.ac Y7.ac).mono ?_
        rintro e w8 ⟨rfl, hb8⟩
        have X8 := X7.own hb8
        have Y8 := Y7.own hb8
        have T8 := own_trans T7 hb8
        have B8 := B7.below hb8
        have C8 := C7.below hb8
        have D8 := D7.below hb8
        have E8 := E7.below hb8
        obtain ⟨-, b80, b81, -, -⟩ := B8.two
        obtain ⟨-, d80, d81, -, -⟩ := D8.two
        clear hb8 X7 Y7 T7 B7 C7 D7 E7 d0 d1 e0 e1
        go_upto_region 14 with fail
        go_cut [52] (fun x wx => x = .bool false ∧ Below w.heap.size w wx ∧ (∃ L, AcR wx L (.agg #[.slice a6 p c6, .slice b6 q d6]) s' t') ∧ Box wx (w.heap.size + 1) [.slice ad' p ca', .slice bd' q cb'] ∧ Box wx gy [.slice a6 p c6, .slice b6 q d6])
        case first =>
          go_region_held3 (fun w' => w'.cell? ⟨gx, 0, none⟩ = some (.slice a4 n c4) ∧ w'.cell? ⟨gx, 1, none⟩ = some (.slice b4 m d4) ∧ w'.cell? ⟨w.heap.size, 0, none⟩ = some (.slice ad n ca) ∧ w'.cell? ⟨w.heap.size, 1, none⟩ = some (.slice bd m cb)) (go_keep)
            (first
              | (go_at_call 15; (with_reducible refine (HE1.out _ _ _ _ _ hA9 hR9).mono ?_); rintro e wA ⟨rfl, hbA⟩; have TA := own_trans T9 hbA; have BA := B9.below hbA; have DA := D9.below hbA; have CA := C9.below hbA; have EA := E9.below hbA; have YA := Y9.own hbA; obtain ⟨-, bA0, bA1, -, -⟩ := BA.two; obtain ⟨-, dA0, dA1, -, -⟩ := DA.two; clear hbA)
              | (go_at_call 13; (with_reducible refine (HT1.out _ (own_drew T8)).mono ?_); rintro e w9 ⟨u9, rfl, hR9, hb9⟩; have T9 := own_trans (own_drew T8) hb9; have hA9 := (X8.drew).own hb9; have Y9 := (Y8.drew).own hb9; have B9 := (B8.drew).below hb9; have C9 := (C8.drew).below hb9; have D9 := (D8.drew).below hb9; have E9 := (E8.drew).below hb9; obtain ⟨-, b90, b91, -, -⟩ := B9.two; obtain ⟨-, d90, d91, -, -⟩ := D9.two; clear hb9))
          all_goals
            go_wp2_with fail
            go_meet
            exact ⟨rfl, TA, ⟨_, YA⟩, CA, EA⟩
        case rest =>
          clear X8 Y8 T8 B8 C8 D8 E8 b80 b81 d80 d81
          obtain ⟨rfl, T, ⟨L, Y⟩, C, E⟩ := hcut
          obtain ⟨-, c0, c1, -, -⟩ := C.two
          obtain ⟨-, e0, e1, -, -⟩ := E.two
          go_upto_region 16 with fail
          go_region_held3 (fun w' => w'.cell? ⟨gy, 0, none⟩ = some (.slice a6 p c6) ∧ w'.cell? ⟨gy, 1, none⟩ = some (.slice b6 q d6) ∧ w'.cell? ⟨w.heap.size + 1, 0, none⟩ = some (.slice ad' p ca') ∧ w'.cell? ⟨w.heap.size + 1, 1, none⟩ = some (.slice bd' q cb')) (go_keep)
            (first
              | (go_at_call 15; (with_reducible refine (HE2.out _ _ _ _ _ hA9 hR9).mono ?_); rintro e wA ⟨rfl, hbA⟩; have TA := own_trans T9 hbA; have CA := C9.below hbA; have EA := E9.below hbA; obtain ⟨-, bA0, bA1, -, -⟩ := CA.two; obtain ⟨-, dA0, dA1, -, -⟩ := EA.two; clear hbA)
              | (go_at_call 13; (with_reducible refine (HT2.out _ (own_drew T)).mono ?_); rintro e w9 ⟨u9, rfl, hR9, hb9⟩; have T9 := own_trans (own_drew T) hb9; have hA9 := (Y.drew).own hb9; have C9 := (C.drew).below hb9; have E9 := (E.drew).below hb9; obtain ⟨-, b90, b91, -, -⟩ := C9.two; obtain ⟨-, d90, d91, -, -⟩ := E9.two; clear hb9))
          all_goals
            go_wp2
            go_ret
            exact ⟨rfl, by first | exact TA | exact own_drew TA⟩
    · rw [if_neg h2] at HZ2
      clear hs hi ra rb ra' rb' n1 n2 n3 n4 h2 hl
      generalize s.length = n at *
      generalize t.length = m at *
      generalize s'.length = p at *
      generalize t'.length = q at *
      go_enter Try.func9, Try.ntmps9
      go_wp2_with fail
      refine (HZ1.out _).mono ?_
      rintro e w1 ⟨rfl, hb1⟩
      have Bw1_0 : Box w1 (w.heap.size) [.slice ad n ca, .slice bd m cb] := by refine Box.below ?_ hb1; repeat (first | with_reducible assumption | with_reducible exact Box.new _ _ _ | (with_reducible refine Box.newAt ?_ _ _; (simp; done)) | with_reducible apply Box.alloc | with_reducible apply Box.drewN | with_reducible apply Box.drew)
      obtain ⟨_, _, _, _, _⟩ := Bw1_0.two
      have Bw1_1 : Box w1 (w.heap.size + 1) [.slice ad' p ca', .slice bd' q cb'] := by refine Box.below ?_ hb1; repeat (first | with_reducible assumption | with_reducible exact Box.new _ _ _ | (with_reducible refine Box.newAt ?_ _ _; (simp; done)) | with_reducible apply Box.alloc | with_reducible apply Box.drewN | with_reducible apply Box.drew)
      obtain ⟨_, _, _, _, _⟩ := Bw1_1.two
      have T1 : Below w.heap.size w w1 := by repeat (first | with_reducible exact own_refl _ | with_reducible assumption | with_reducible apply own_alloc | with_reducible apply own_drewN | with_reducible apply own_drew | ((with_reducible refine own_setCell ?_ ?_ _); rotate_left; focus (first | (simp; done) | (simp; omega))) | (with_reducible (refine own_trans ?_ (by assumption))))
      go_wp2_with fail
      refine (HZ2.out _).mono ?_
      rintro e w2 ⟨rfl, hb2⟩
      go_wp2
      go_ret
      exact ⟨rfl, own_trans T1 hb2⟩
  · rw [if_neg h1] at HZ1
    clear hs hi ra rb ra' rb' n1 n2 n3 n4 h1
    generalize s.length = n at *
    generalize t.length = m at *
    generalize s'.length = p at *
    generalize t'.length = q at *
    go_enter Try.func9, Try.ntmps9
    go_wp2_with fail
    refine (HZ1.out _).mono ?_
    rintro e w1 ⟨rfl, hb1⟩
    go_wp2
    go_ret
    exact ⟨rfl, by repeat (first | with_reducible exact own_refl _ | with_reducible assumption | with_reducible apply own_alloc | with_reducible apply own_drewN | with_reducible apply own_drew | ((with_reducible refine own_setCell ?_ ?_ _); rotate_left; focus (first | (simp; done) | (simp; omega))) | (with_reducible (refine own_trans ?_ (by assumption))))⟩
theorem lawHaveEqualGroups_walk (s t : List Int) (ad bd : Option Addr) (ca cb : Nat) (s' t' : List Int) (ad' bd' : Option Addr) (ca' cb' : Nat) (w : World) (ra : Rs w ad s) (rb : Rs w bd t) (n1 : s.length ≤ 9223372036854775807) (n2 : t.length ≤ 9223372036854775807)
    (ra' : Rs w ad' s') (rb' : Rs w bd' t') (n3 : s'.length ≤ 9223372036854775807) (n4 : t'.length ≤ 9223372036854775807) :
    Calls Try.prog 9 #[.agg #[.slice ad s.length ca, .slice bd t.length cb], .agg #[.slice ad' s'.length ca', .slice bd' t'.length cb']] w fun e w' => e = .returned (.bool true) ∧ Below w.heap.size w w' :=
  lawHE_of s t s' t' ad bd ad' bd' ca cb ca' cb' _ _ (fun u v w hu hv => HEs_is s t s' t' n1 n3 u v w hu hv) (fun u v w hu hv => HEi_is s t s' t' n1 n3 u v w hu hv) w ra rb ra' rb' n1 n2 n3 n4
end Go.Proofs.Ytfchfakkbdfajaa
