/- The walk of the law FnExactFormFrom. -/
import Derived.Test.YtfchfakkbdfajaaAcY
import Derived.Test.YtfchfakkbdfajaaMkA
namespace Go.Proofs.Ytfchfakkbdfajaa
open Go.ChangeShapes Go.WideShapes Go.ChangeAt Go.RowKit

theorem OnlyA.below {u : Value} {w wc w' : World} (h : OnlyA u wc w') (T : Below w.heap.size w wc) (hn : ∀ b, ownA u b → w.heap.size ≤ b) : Below w.heap.size w w' := by
  obtain ⟨x, y, w1, e, h1, h2⟩ := h
  have T1 := T.grown h1 T.size (fun b hb => hn b ⟨x, y, e, .inl hb⟩)
  exact T1.grown h2 T1.size (fun b hb => hn b ⟨x, y, e, .inr hb⟩)
theorem OnlyA.size {u : Value} {w w' : World} (h : OnlyA u w w') : w.heap.size ≤ w'.heap.size := by
  obtain ⟨x, y, w1, e, h1, h2⟩ := h
  exact Nat.le_trans h1.4 h2.4
set_option maxRecDepth 100000 in
set_option maxHeartbeats 16000000 in
theorem lawFF_of (s t : List Int) (ad bd : Option Addr) (ca cb : Nat) (x0 : Int) (p q : List Int) (hp : p.length ≤ 1000) (hq : q.length ≤ 1000) (kc : Int)
    (hs : ∀ (w : World) (u : Value), Ac w u s t → Calls Try.prog 32 #[u, (.int .i64 x0)] w (RetA p q kc w))
    (hi : ∀ (w : World) (u : Value), Ac w u s t → Calls Try.prog 33 #[u, (.int .i64 x0)] w (RetA p q kc w)) (w : World)
    (ra : Rs w ad s) (rb : Rs w bd t) (ns : s.length ≤ 9223372036854775807) (nt : t.length ≤ 9223372036854775807) :
    Calls Try.prog 8 #[.agg #[.slice ad s.length ca, .slice bd t.length cb], (.int .i64 x0)] w fun e w' => e = .returned (.bool true) ∧ Below w.heap.size w w' := by
  by_cases hsz : s.length + t.length ≤ 1048576
  · have HZ := Lib.hid (fun w => szA_yes ad bd s.length t.length ca cb hsz w)
    have HT := Lib.hid (fun w' (h : Below w.heap.size w w') => toAc_any ad bd ca cb s t (by omega) (by omega) w' (ra.below h) (rb.below h))
    have HE := Lib.hid (fun u v L L' w hu hv => eqA_same u v s t L L' w (by omega) (by omega) hu hv)
    have HEp := Lib.hid (fun u v L L' w hu hv => eqA_same u v p q L L' w (by omega) (by omega) hu hv)
    have HMx := Lib.hid (fun u L w hu => markA_any u s t L w (by omega) (by omega) hu)
    have HMg := Lib.hid (fun u L w hu => markA_any u p q L w (by omega) (by omega) hu)
    have HHg := Lib.hid (fun u L w hu => heldA_ramp u p.length q.length L w (by omega) (by omega) hu)
    have HS := Lib.hid hs
    have HI := Lib.hid hi
    have hnm : s.length + t.length ≤ 1048576 := hsz
    clear hs hi ra rb ns nt hsz
    generalize hn : s.length = n at *
    generalize hm : t.length = m at *
    generalize hP : p.length = P at *
    generalize hQ : q.length = Q at *
    have HN := Lib.hid (And.intro hn (And.intro hm (And.intro hP hQ)))
    clear hn hm hP hQ
    go_enter Try.func8, Try.ntmps8
    go_wp2_with fail
    refine (HZ.out _).mono ?_
    rintro e w1 ⟨rfl, hb1⟩
    have Bw1_0 : Box w1 (w.heap.size) [.slice ad n ca, .slice bd m cb] := by refine Box.below ?_ hb1; repeat (first | with_reducible assumption | with_reducible exact Box.new _ _ _ | (with_reducible refine Box.newAt ?_ _ _; (simp; done)) | with_reducible apply Box.alloc | with_reducible apply Box.drewN | with_reducible apply Box.drew)
    obtain ⟨_, _, _, _, _⟩ := Bw1_0.two
    have T1 : Below w.heap.size w w1 := by repeat (first | with_reducible exact own_refl _ | with_reducible assumption | with_reducible apply own_alloc | with_reducible apply own_drewN | with_reducible apply own_drew | ((with_reducible refine own_setCell ?_ ?_ _); rotate_left; focus (first | (simp; done) | (simp; omega))) | (with_reducible (refine own_trans ?_ (by assumption))))
    go_wp2_with fail
    refine (HT.out _ T1).mono ?_
    rintro e w2 ⟨u2, rfl, hA2, hb2⟩
    have A2 := Bw1_0.below hb2
    have T2 := own_trans T1 hb2
    clear hb1 Bw1_0 hb2
    go_wp2_with fail
    refine (HS.out _ _ hA2.ac).mono ?_
    rintro e w3 ⟨v3, rfl, RW3, hb3⟩
    obtain ⟨a3, c3, b3, d3, e3⟩ := RW3.shape
    rw [HN.out.2.2.1, HN.out.2.2.2] at e3
    subst e3
    have hw : ∀ b, ownA (.agg #[.slice a3 P c3, .slice b3 Q d3]) b → b < w3.heap.size := fun b hb => (RW3.ownL hb).2
    have T3 := own_alloc (own_trans T2 hb3) (.cells #[.slice a3 P c3, .slice b3 Q d3] 27)
    have RW := RW3.own (own_alloc (own_refl w3) (.cells #[.slice a3 P c3, .slice b3 Q d3] 27))
    have A3 := (A2.below hb3).alloc (.cells #[.slice a3 P c3, .slice b3 Q d3] 27)
    have W3 : Box (w3.alloc (.cells #[.slice a3 P c3, .slice b3 Q d3] 27)) w3.heap.size [.slice a3 P c3, .slice b3 Q d3] := Box.new _ _ _
    have hs3 : (w3.alloc (.cells #[.slice a3 P c3, .slice b3 Q d3] 27)).heap.size = w3.heap.size + 1 := by simp
    have hgw : w.heap.size < w3.heap.size := (A2.below hb3).1
    clear hb3 RW3 A2 T2 hA2
    go_upto_region 6 with fail
    generalize w3.alloc (.cells #[.slice a3 P c3, .slice b3 Q d3] 27) = wA at *
    generalize w3.heap.size = gw at *
    clear w3
    obtain ⟨-, x1, x2, -, -⟩ := A3.two
    go_wp2_with fail
    refine (HT.out _ T3).mono ?_
    rintro e w4 ⟨u4, rfl, RX4, hb4⟩
    obtain ⟨a4, c4, b4, d4, e4⟩ := RX4.shape
    rw [HN.out.1, HN.out.2.1] at e4
    subst e4
    rw [hs3] at RX4
    have hx : ∀ b, ownA (.agg #[.slice a4 n c4, .slice b4 m d4]) b → gw + 1 ≤ b ∧ b < w4.heap.size := fun b hb => RX4.ownL hb
    have T5 := own_alloc (own_trans T3 hb4) (.cells #[.slice a4 n c4, .slice b4 m d4] 27)
    have RW5 := (RW.own hb4).own (own_alloc (own_refl w4) (.cells #[.slice a4 n c4, .slice b4 m d4] 27))
    have RX5 := RX4.own (own_alloc (own_refl w4) (.cells #[.slice a4 n c4, .slice b4 m d4] 27))
    have A5 := (A3.below hb4).alloc (.cells #[.slice a4 n c4, .slice b4 m d4] 27)
    have W5 := (W3.below hb4).alloc (.cells #[.slice a4 n c4, .slice b4 m d4] 27)
    have X5 : Box (w4.alloc (.cells #[.slice a4 n c4, .slice b4 m d4] 27)) w4.heap.size [.slice a4 n c4, .slice b4 m d4] := Box.new _ _ _
    have hs5 : (w4.alloc (.cells #[.slice a4 n c4, .slice b4 m d4] 27)).heap.size = w4.heap.size + 1 := by simp
    have hgx : gw < w4.heap.size := (W3.below hb4).1
    clear hb4 RX4 RW A3 W3 T3 x1 x2 hs3
    go_upto_region 7 with fail
    generalize w4.alloc (.cells #[.slice a4 n c4, .slice b4 m d4] 27) = w5 at *
    generalize w4.heap.size = gx at *
    clear w4
    obtain ⟨-, x1, x2, -, -⟩ := X5.two
    go_wp2_with fail
    refine (HI.out _ _ RX5.ac).mono ?_
    rintro e w6 ⟨v6, rfl, RG6, hb6⟩
    obtain ⟨a6, c6, b6, d6, e6⟩ := RG6.shape
    rw [HN.out.2.2.1, HN.out.2.2.2] at e6
    subst e6
    rw [hs5] at RG6
    have hg : ∀ b, ownA (.agg #[.slice a6 P c6, .slice b6 Q d6]) b → gx + 1 ≤ b ∧ b < w6.heap.size := fun b hb => RG6.ownL hb
    have T7 := own_alloc (own_trans T5 hb6) (.cells #[.slice a6 P c6, .slice b6 Q d6] 27)
    have RW7 := (RW5.own hb6).own (own_alloc (own_refl w6) (.cells #[.slice a6 P c6, .slice b6 Q d6] 27))
    have RX7 := (RX5.own hb6).own (own_alloc (own_refl w6) (.cells #[.slice a6 P c6, .slice b6 Q d6] 27))
    have RG7 := RG6.own (own_alloc (own_refl w6) (.cells #[.slice a6 P c6, .slice b6 Q d6] 27))
    have A7 := (A5.below hb6).alloc (.cells #[.slice a6 P c6, .slice b6 Q d6] 27)
    have W7 := (W5.below hb6).alloc (.cells #[.slice a6 P c6, .slice b6 Q d6] 27)
    have X7 := (X5.below hb6).alloc (.cells #[.slice a6 P c6, .slice b6 Q d6] 27)
    have G7 : Box (w6.alloc (.cells #[.slice a6 P c6, .slice b6 Q d6] 27)) w6.heap.size [.slice a6 P c6, .slice b6 Q d6] := Box.new _ _ _
    have hgg : gx < w6.heap.size := (X5.below hb6).1
    clear hb6 RG6 RX5 RW5 A5 W5 X5 T5 x1 x2 hs5
    go_upto_region 8 with fail
    generalize w6.alloc (.cells #[.slice a6 P c6, .slice b6 Q d6] 27) = w7 at *
    generalize w6.heap.size = gg at *
    clear w6
    obtain ⟨-, x1, x2, -, -⟩ := G7.two
    obtain ⟨-, x3, x4, -, -⟩ := W7.two
    go_wp2_with fail
    refine (HEp.out _ _ _ _ _ RG7 RW7).mono ?_
    rintro e w8 ⟨rfl, hb8⟩
    have T8 := own_trans T7 hb8
    have RW8 := RW7.own hb8
    have RX8 := RX7.own hb8
    have RG8 := RG7.own hb8
    have A8 := A7.below hb8
    have W8 := W7.below hb8
    have X8 := X7.below hb8
    have G8 := G7.below hb8
    clear hb8 RG7 RX7 RW7 A7 W7 X7 G7 T7 x1 x2 x3 x4
    obtain ⟨-, x1, x2, -, -⟩ := X8.two
    obtain ⟨-, x3, x4, -, -⟩ := A8.two
    go_upto_region 10 with fail
    go_cut [49] (fun x wx => x = .bool false ∧ Below w.heap.size w wx ∧ (∃ L, AcR wx L (.agg #[.slice a3 P c3, .slice b3 Q d3]) p q) ∧ (∃ L, AcR wx L (.agg #[.slice a4 n c4, .slice b4 m d4]) s t) ∧ (∃ L, AcR wx L (.agg #[.slice a6 P c6, .slice b6 Q d6]) p q) ∧ Box wx w.heap.size [.slice ad n ca, .slice bd m cb] ∧ Box wx gw [.slice a3 P c3, .slice b3 Q d3] ∧ Box wx gx [.slice a4 n c4, .slice b4 m d4] ∧ Box wx gg [.slice a6 P c6, .slice b6 Q d6])
    case first =>
      go_region_held3 (fun w' => w'.cell? ⟨gx, 0, none⟩ = some (.slice a4 n c4) ∧ w'.cell? ⟨gx, 1, none⟩ = some (.slice b4 m d4) ∧ w'.cell? ⟨w.heap.size, 0, none⟩ = some (.slice ad n ca) ∧ w'.cell? ⟨w.heap.size, 1, none⟩ = some (.slice bd m cb)) (go_keep)
        (first
          | (go_at_call 15; (with_reducible refine (HE.out _ _ _ _ _ RX9 RY9).mono ?_); rintro e wB ⟨rfl, hbB⟩; have TB := own_trans T9 hbB; have RWB := RW9.own hbB; have RXB := RX9.own hbB; have RGB := RG9.own hbB; have AB := A9.below hbB; have WB := W9.below hbB; have XB := X9.below hbB; have GB := G9.below hbB; obtain ⟨-, y1, y2, -, -⟩ := XB.two; obtain ⟨-, y3, y4, -, -⟩ := AB.two; clear hbB)
          | (go_at_call 13; (with_reducible refine (HT.out _ (own_drew T8)).mono ?_); rintro e w9 ⟨u9, rfl, RY9, hb9⟩; have T9 := own_trans (own_drew T8) hb9; have RW9 := (RW8.drew).own hb9; have RX9 := (RX8.drew).own hb9; have RG9 := (RG8.drew).own hb9; have A9 := (A8.drew).below hb9; have W9 := (W8.drew).below hb9; have X9 := (X8.drew).below hb9; have G9 := (G8.drew).below hb9; obtain ⟨-, z1, z2, -, -⟩ := X9.two; obtain ⟨-, z3, z4, -, -⟩ := A9.two; clear hb9))
      all_goals
        go_wp2_with fail
        go_meet
        exact ⟨rfl, TB, ⟨_, RWB⟩, ⟨_, RXB⟩, ⟨_, RGB⟩, AB, WB, XB, GB⟩
    case rest =>
      clear T8 RW8 RX8 RG8 A8 W8 X8 G8 x1 x2 x3 x4
      obtain ⟨rfl, T, ⟨Lw, RW⟩, ⟨Lx, RX⟩, ⟨Lg, RG⟩, AB, WB, XB, GB⟩ := hcut
      obtain ⟨-, x1, x2, -, -⟩ := XB.two
      go_upto_region 13 with fail
      go_wp2_with fail
      refine (HMx.out _ _ _ RX).mono ?_
      rintro e wD ⟨rfl, _, O⟩
      have RWD := O.acr RW (fun b hb hb' => by have := hw b hb; have := hx b hb'; omega)
      have RGD := O.acr RG (fun b hb hb' => by have := hg b hb; have := hx b hb'; omega)
      have AD := O.box AB (fun hb' => by have := hx _ hb'; omega)
      have WD := O.box WB (fun hb' => by have := hx _ hb'; omega)
      have GD := O.box GB (fun hb' => by have := hx _ hb'; omega)
      have TD := O.below T (fun b hb' => by have := hx b hb'; omega)
      clear O RW RX RG AB WB XB GB T x1 x2
      obtain ⟨-, x1, x2, -, -⟩ := GD.two
      obtain ⟨-, x3, x4, -, -⟩ := WD.two
      go_wp2_with fail
      refine (HEp.out _ _ _ _ _ RGD RWD).mono ?_
      rintro e wE ⟨rfl, hbE⟩
      have RWE := RWD.own hbE
      have RGE := RGD.own hbE
      have AE := AD.below hbE
      have WE := WD.below hbE
      have GE := GD.below hbE
      have TE := own_trans TD hbE
      clear hbE RWD RGD AD WD GD TD x1 x2 x3 x4
      obtain ⟨-, x1, x2, -, -⟩ := GE.two
      go_upto_region 17 with fail
      go_wp2_with fail
      refine (HMg.out _ _ _ RGE).mono ?_
      rintro e wF ⟨rfl, RGF, O⟩
      have RWF := O.acr RWE (fun b hb hb' => by have := hw b hb; have := hg b hb'; omega)
      have AF := O.box AE (fun hb' => by have := hg _ hb'; omega)
      have WF := O.box WE (fun hb' => by have := hg _ hb'; omega)
      have GF := O.box GE (fun hb' => by have := hg _ hb'; omega)
      have TF := O.below TE (fun b hb' => by have := hg b hb'; omega)
      clear O RWE RGE AE WE GE TE x1 x2
      obtain ⟨-, x1, x2, -, -⟩ := GF.two
      go_wp2_with fail
      refine (HHg.out _ _ _ RGF).mono ?_
      rintro e wG ⟨rfl, hbG⟩
      have RWG := RWF.own hbG
      have RGG := RGF.own hbG
      have AG := AF.below hbG
      have WG := WF.below hbG
      have GG := GF.below hbG
      have TG := own_trans TF hbG
      clear hbG RWF RGF AF WF GF TF x1 x2
      obtain ⟨-, x1, x2, -, -⟩ := AG.two
      go_upto_region 24 with fail
      go_wp2_with fail
      refine (HT.out _ TG).mono ?_
      rintro e wH ⟨uH, rfl, RH, hbH⟩
      have RWH := RWG.own hbH
      have RGH := RGG.own hbH
      have WH := WG.below hbH
      have GH := GG.below hbH
      have TH := own_trans TG hbH
      clear hbH RWG RGG AG WG GG TG x1 x2
      go_wp2_with fail
      refine (HI.out _ _ RH.ac).mono ?_
      rintro e wI ⟨vA, rfl, RA, hbI⟩
      obtain ⟨aA, cA, bA, dA, eA⟩ := RA.shape
      rw [HN.out.2.2.1, HN.out.2.2.2] at eA
      subst eA
      have RWJ := (RWH.own hbI).own (own_alloc (own_refl wI) (.cells #[.slice aA P cA, .slice bA Q dA] 27))
      have RGJ := (RGH.own hbI).own (own_alloc (own_refl wI) (.cells #[.slice aA P cA, .slice bA Q dA] 27))
      have RAJ := RA.own (own_alloc (own_refl wI) (.cells #[.slice aA P cA, .slice bA Q dA] 27))
      have WJ := (WH.below hbI).alloc (.cells #[.slice aA P cA, .slice bA Q dA] 27)
      have GJ := (GH.below hbI).alloc (.cells #[.slice aA P cA, .slice bA Q dA] 27)
      have HJ : Box (wI.alloc (.cells #[.slice aA P cA, .slice bA Q dA] 27)) wI.heap.size [.slice aA P cA, .slice bA Q dA] := Box.new _ _ _
      have TJ := own_alloc (own_trans TH hbI) (.cells #[.slice aA P cA, .slice bA Q dA] 27)
      clear hbI RWH RGH RH RA WH GH TH
      go_upto_region 25 with fail
      generalize wI.alloc (.cells #[.slice aA P cA, .slice bA Q dA] 27) = wJ at *
      generalize wI.heap.size = gh at *
      clear wI
      obtain ⟨-, x1, x2, -, -⟩ := HJ.two
      obtain ⟨-, x3, x4, -, -⟩ := WJ.two
      go_wp2_with fail
      refine (HEp.out _ _ _ _ _ RAJ RWJ).mono ?_
      rintro e wK ⟨rfl, hbK⟩
      have RGK := RGJ.own hbK
      have GK := GJ.below hbK
      have TK := own_trans TJ hbK
      clear hbK RWJ RGJ RAJ WJ GJ HJ TJ x1 x2 x3 x4
      obtain ⟨-, x1, x2, -, -⟩ := GK.two
      go_wp2_with fail
      refine (HHg.out _ _ _ RGK).mono ?_
      rintro e wL ⟨rfl, hbL⟩
      have TL := own_trans TK hbL
      go_wp2
      go_ret
      exact ⟨rfl, TL⟩
  · have HZ := Lib.hid (fun w => szA_no ad bd s.length t.length ca cb (by omega) (by omega) hsz w)
    clear hs hi ra rb
    generalize s.length = n at *
    generalize t.length = m at *
    go_enter Try.func8, Try.ntmps8
    go_wp2_with fail
    refine (HZ.out _).mono ?_
    rintro e w1 ⟨rfl, hb1⟩
    go_wp2
    go_ret
    exact ⟨rfl, by repeat (first | with_reducible exact own_refl _ | with_reducible assumption | with_reducible apply own_alloc | with_reducible apply own_drewN | with_reducible apply own_drew | ((with_reducible refine own_setCell ?_ ?_ _); rotate_left; focus (first | (simp; done) | (simp; omega))) | (with_reducible (refine own_trans ?_ (by assumption))))⟩
theorem ff_len (s t : List Int) (i : Int) : (ffS s t i).length ≤ 1000 ∧ (ffT s t i).length ≤ 1000 := by
  unfold ffS ffT
  by_cases h : ptCode s t i = 0
  · rw [if_pos h, if_pos h, frm_len, frm_len]
    have : s.length ≤ 72 := by
      rcases hA : isA s t with _ | _
      · simp [ptCode, hA] at h
      · exact (isA_is hA).n72
    omega
  · rw [if_neg h, if_neg h]; simp
theorem lawFormFrom_walk (s t : List Int) (ad bd : Option Addr) (ca cb : Nat) (i : Int) (w : World) (ra : Rs w ad s) (rb : Rs w bd t) (ns : s.length ≤ 9223372036854775807) (nt : t.length ≤ 9223372036854775807) (_ : I64 i) :
    Calls Try.prog 8 #[.agg #[.slice ad s.length ca, .slice bd t.length cb], (.int .i64 i)] w fun e w' => e = .returned (.bool true) ∧ Below w.heap.size w w' :=
  lawFF_of s t ad bd ca cb i _ _ (ff_len s t i).1 (ff_len s t i).2 _ (fun w u h => FFs_is s t ns i u w h) (fun w u h => FFi_is s t ns i u w h) w ra rb ns nt
end Go.Proofs.Ytfchfakkbdfajaa
