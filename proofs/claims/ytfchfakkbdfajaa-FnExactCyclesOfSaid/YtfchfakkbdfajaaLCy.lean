/- The walk of the law FnExactCyclesOf. -/
import Derived.Test.YtfchfakkbdfajaaAcU
import Derived.Test.YtfchfakkbdfajaaLFf
namespace Go.Proofs.Ytfchfakkbdfajaa
open Go.ChangeShapes Go.WideShapes Go.ChangeAt Go.RowKit

theorem OnlyA.belowU {u : Value} {wc w' : World} (h : OnlyA u wc w') {U : Nat} (hU : U ≤ wc.heap.size) (hn : ∀ b, ownA u b → U ≤ b) : Below U wc w' := by
  obtain ⟨x, y, w1, e, h1, h2⟩ := h
  have T1 := (Below.refl U wc).grown h1 hU (fun b hb => hn b ⟨x, y, e, .inl hb⟩)
  exact T1.grown h2 (Nat.le_trans hU h1.4) (fun b hb => hn b ⟨x, y, e, .inr hb⟩)
theorem OnlyA.ss {u : Value} {wc w' : World} (h : OnlyA u wc w') {L : Nat} {v : Value} {xss : List (List Int)} (G : GrSS wc L v xss) (hn : ∀ b, ownA u b → b < L) : GrSS w' L v xss := by
  obtain ⟨x, y, w1, e, h1, h2⟩ := h
  exact (G.keptA h1 (fun r hr => hn r ⟨x, y, e, .inl hr⟩)).keptA h2 (fun r hr => hn r ⟨x, y, e, .inr hr⟩)
set_option maxRecDepth 100000 in
set_option maxHeartbeats 16000000 in
theorem lawCY_of (s t : List Int) (ad bd : Option Addr) (ca cb : Nat) (xss : List (List Int)) (hxl : xss.length ≤ 1000000) (hxs : sumL xss ≤ 1000000) (hxm : ∀ xs ∈ xss, xs.length ≤ 1000000) (kc : Int)
    (hs : ∀ (w : World) (u : Value), Ac w u s t → Calls Try.prog 16 #[u] w (RetV xss kc w))
    (hi : ∀ (w : World) (u : Value), Ac w u s t → Calls Try.prog 17 #[u] w (RetV xss kc w)) (w : World)
    (ra : Rs w ad s) (rb : Rs w bd t) (ns : s.length ≤ 9223372036854775807) (nt : t.length ≤ 9223372036854775807) :
    Calls Try.prog 4 #[.agg #[.slice ad s.length ca, .slice bd t.length cb]] w fun e w' => e = .returned (.bool true) ∧ Below w.heap.size w w' := by
  by_cases hsz : s.length + t.length ≤ 1048576
  · have HZ := Lib.hid (fun w => szA_yes ad bd s.length t.length ca cb hsz w)
    have HT := Lib.hid (fun w' (h : Below w.heap.size w w') => toAc_any ad bd ca cb s t (by omega) (by omega) w' (ra.below h) (rb.below h))
    have HE := Lib.hid (fun u v L L' w hu hv => eqA_same u v s t L L' w (by omega) (by omega) hu hv)
    have HEp := Lib.hid (fun u v L L' w hu hv => eqSS_same u v xss L L' w hxl hxm hu hv)
    have HMx := Lib.hid (fun u L w hu => markA_any u s t L w (by omega) (by omega) hu)
    have HMg := Lib.hid (fun u L w hL hu => markSS_any u xss 1 L w hxl hxs (by omega) (by omega) hL hu)
    have HHg := Lib.hid (fun u L w hu => heldSS_mk u xss 1 L w hxl hxs (by omega) (by omega) hu)
    have HS := Lib.hid hs
    have HI := Lib.hid hi
    have hnm : s.length + t.length ≤ 1048576 := hsz
    clear hs hi ra rb ns nt hsz
    generalize hn : s.length = n at *
    generalize hm : t.length = m at *
    generalize sumL xss = SL at *
    have HN := Lib.hid (And.intro hn hm)
    clear hn hm
    go_enter Try.func4, Try.ntmps4
    go_wp2_with fail
    refine (HZ.out _).mono ?_
    rintro e w1 ⟨rfl, hb1⟩
    have Bw1_0 : Box w1 (w.heap.size) [.slice ad n ca, .slice bd m cb] := by refine Box.below ?_ hb1; repeat (first | with_reducible assumption | with_reducible exact Box.new _ _ _ | (with_reducible refine Box.newAt ?_ _ _; (simp; done)) | with_reducible apply Box.alloc | with_reducible apply Box.drewN | with_reducible apply Box.drew)
    obtain ⟨_, _, _, _, _⟩ := Bw1_0.two
    have T1 : Below w.heap.size w w1 := by repeat (first | with_reducible exact own_refl _ | with_reducible assumption | with_reducible apply own_alloc | with_reducible apply own_drewN | with_reducible apply own_drew | ((with_reducible refine own_setCell ?_ ?_ _); rotate_left; focus (first | (simp; done) | (simp; omega))) | (with_reducible (refine own_trans ?_ (by assumption))))
    go_wp2_with fail
    refine (HT.out _ T1).mono ?_
    rintro e w2 ⟨u2, rfl, hA2, hb2⟩
    have A2 := Bw1_0.below hb2
    have T2 := own_trans T1 hb2
    clear hb1 Bw1_0 hb2
    go_wp2_with fail
    refine (HS.out _ _ hA2.ac).mono ?_
    rintro e w3 ⟨v3, rfl, RW, hb3⟩
    obtain ⟨a3, c3, e3⟩ := RW.shape
    subst e3
    have T3 := own_trans T2 hb3
    have A3 := A2.below hb3
    clear hb3 A2 T2 hA2
    obtain ⟨-, x1, x2, -, -⟩ := A3.two
    go_upto_region 6 with fail
    go_wp2_with fail
    refine (HT.out _ T3).mono ?_
    rintro e w4 ⟨u4, rfl, RX4, hb4⟩
    obtain ⟨a4, c4, b4, d4, e4⟩ := RX4.shape
    rw [HN.out.1, HN.out.2] at e4
    subst e4
    have hx : ∀ b, ownA (.agg #[.slice a4 n c4, .slice b4 m d4]) b → w3.heap.size ≤ b ∧ b < w4.heap.size := fun b hb => RX4.ownL hb
    have T5 := own_alloc (own_trans T3 hb4) (.cells #[.slice a4 n c4, .slice b4 m d4] 27)
    have TW5 := own_alloc hb4 (.cells #[.slice a4 n c4, .slice b4 m d4] 27)
    have RX5 := RX4.own (own_alloc (own_refl w4) (.cells #[.slice a4 n c4, .slice b4 m d4] 27))
    have A5 := (A3.below hb4).alloc (.cells #[.slice a4 n c4, .slice b4 m d4] 27)
    have X5 : Box (w4.alloc (.cells #[.slice a4 n c4, .slice b4 m d4] 27)) w4.heap.size [.slice a4 n c4, .slice b4 m d4] := Box.new _ _ _
    have hs5 : (w4.alloc (.cells #[.slice a4 n c4, .slice b4 m d4] 27)).heap.size = w4.heap.size + 1 := by simp
    have hgx : w.heap.size < w4.heap.size := (A3.below hb4).1
    have hz3 := hb4.size
    have hA3 : w.heap.size < w3.heap.size := A3.1
    clear hb4 RX4 A3 x1 x2
    go_upto_region 7 with fail
    generalize w4.alloc (.cells #[.slice a4 n c4, .slice b4 m d4] 27) = w5 at *
    generalize w4.heap.size = gx at *
    clear w4
    obtain ⟨-, x1, x2, -, -⟩ := X5.two
    go_wp2_with fail
    refine (HI.out _ _ RX5.ac).mono ?_
    rintro e w6 ⟨v6, rfl, RG7, hb6⟩
    obtain ⟨a6, c6, e6⟩ := RG7.shape
    subst e6
    rw [hs5] at RG7
    have T7 := own_trans T5 hb6
    have TW7 := own_trans TW5 hb6
    have RX7 := RX5.own hb6
    have A7 := A5.below hb6
    have X7 := X5.below hb6
    have hgg : gx + 1 ≤ w6.heap.size := by have := hb6.size; omega
    clear hb6 RX5 A5 X5 T5 TW5 x1 x2 hs5
    have RW7 := RW.own TW7
    go_upto_region 8 with fail
    go_wp2_with fail
    refine (HEp.out _ _ _ _ _ RG7 RW7).mono ?_
    rintro e w8 ⟨rfl, hb8⟩
    have T8 := own_trans T7 hb8
    have TW8 := own_trans TW7 hb8
    have RX8 := RX7.own hb8
    have RG8 := RG7.own hb8
    have A8 := A7.below hb8
    have X8 := X7.below hb8
    have hg8 : gx + 1 ≤ w8.heap.size := by have := hb8.size; omega
    clear hb8 RG7 RX7 RW7 A7 X7 T7 TW7
    obtain ⟨-, x1, x2, -, -⟩ := X8.two
    obtain ⟨-, x3, x4, -, -⟩ := A8.two
    go_upto_region 10 with fail
    go_cut [45] (fun x wx => x = .bool false ∧ Below w.heap.size w wx ∧ Below w3.heap.size w3 wx ∧ (∃ L, AcR wx L (.agg #[.slice a4 n c4, .slice b4 m d4]) s t) ∧ GrSS wx (gx + 1) (.slice a6 xss.length c6) xss ∧ Box wx w.heap.size [.slice ad n ca, .slice bd m cb] ∧ Box wx gx [.slice a4 n c4, .slice b4 m d4])
    case first =>
      go_region_held3 (fun w' => w'.cell? ⟨gx, 0, none⟩ = some (.slice a4 n c4) ∧ w'.cell? ⟨gx, 1, none⟩ = some (.slice b4 m d4) ∧ w'.cell? ⟨w.heap.size, 0, none⟩ = some (.slice ad n ca) ∧ w'.cell? ⟨w.heap.size, 1, none⟩ = some (.slice bd m cb)) (go_keep)
        (first
          | (go_at_call 15; (with_reducible refine (HE.out _ _ _ _ _ RX9 RY9).mono ?_); rintro e wB ⟨rfl, hbB⟩; have TB := own_trans T9 hbB; have TWB := own_trans TW9 hbB; have RXB := RX9.own hbB; have RGB := RG9.own hbB; have AB := A9.below hbB; have XB := X9.below hbB; obtain ⟨-, y1, y2, -, -⟩ := XB.two; obtain ⟨-, y3, y4, -, -⟩ := AB.two; clear hbB)
          | (go_at_call 13; (with_reducible refine (HT.out _ (own_drew T8)).mono ?_); rintro e w9 ⟨u9, rfl, RY9, hb9⟩; have T9 := own_trans (own_drew T8) hb9; have TW9 := own_trans (own_drew TW8) hb9; have RX9 := (RX8.drew).own hb9; have RG9 := (RG8.own (own_drew (own_refl _))).own hb9; have A9 := (A8.drew).below hb9; have X9 := (X8.drew).below hb9; obtain ⟨-, z1, z2, -, -⟩ := X9.two; obtain ⟨-, z3, z4, -, -⟩ := A9.two; clear hb9))
      all_goals
        go_wp2_with fail
        go_meet
        exact ⟨rfl, TB, TWB, ⟨_, RXB⟩, RGB, AB, XB⟩
    case rest =>
      clear T8 TW8 RX8 RG8 A8 X8 x1 x2 x3 x4
      obtain ⟨rfl, T, TW, ⟨Lx, RX⟩, RG, AB, XB⟩ := hcut
      obtain ⟨-, x1, x2, -, -⟩ := XB.two
      have hzw := TW.size
      have hxb := XB.1
      go_upto_region 13 with fail
      go_wp2_with fail
      refine (HMx.out _ _ _ RX).mono ?_
      rintro e wD ⟨rfl, _, O⟩
      have RGD := O.ss RG (fun b hb => by have := hx b hb; omega)
      have AD := O.box AB (fun hb' => by have := hx _ hb'; omega)
      have TD := O.below T (fun b hb' => by have := hx b hb'; omega)
      have TWD : Below w3.heap.size w3 wD := TW.trans (O.belowU hzw (fun b hb' => (hx b hb').1))
      have hzD : gx + 1 ≤ wD.heap.size := by have := O.size; omega
      clear O RX RG AB XB T TW x1 x2 hzw hxb
      have RWD := RW.own TWD
      go_wp2_with fail
      refine (HEp.out _ _ _ _ _ RGD RWD).mono ?_
      rintro e wE ⟨rfl, hbE⟩
      have RGE := RGD.own hbE
      have AE := AD.below hbE
      have TE := own_trans TD hbE
      have TWE := own_trans TWD hbE
      have hzE : gx + 1 ≤ wE.heap.size := by have := hbE.size; omega
      clear hbE RWD RGD AD TD TWD
      go_upto_region 17 with fail
      go_wp2_with fail
      refine (HMg.out _ _ _ hzE RGE).mono ?_
      rintro e wF ⟨rfl, RGF, hbF⟩
      have AF := AE.low hbF (by omega)
      have TF := TE.trans (hbF.mono (by omega))
      have TWF := TWE.trans (hbF.mono (by omega))
      clear hbF RGE AE TE TWE
      go_wp2_with fail
      refine (HHg.out _ _ _ RGF).mono ?_
      rintro e wG ⟨rfl, rfl⟩
      obtain ⟨-, x1, x2, -, -⟩ := AF.two
      go_upto_region 24 with fail
      go_wp2_with fail
      refine (HT.out _ TF).mono ?_
      rintro e wH ⟨uH, rfl, RH, hbH⟩
      have RGH := RGF.own hbH
      have TH := own_trans TF hbH
      have TWH := own_trans TWF hbH
      clear hbH RGF AF TF TWF x1 x2
      go_wp2_with fail
      refine (HI.out _ _ RH.ac).mono ?_
      rintro e wI ⟨vA, rfl, RA, hbI⟩
      obtain ⟨aA, cA, eA⟩ := RA.shape
      subst eA
      have RGJ := RGH.own hbI
      have TJ := own_trans TH hbI
      have TWJ := own_trans TWH hbI
      clear hbI RGH RH TH TWH
      have RWJ := RW.own TWJ
      go_upto_region 25 with fail
      go_wp2_with fail
      refine (HEp.out _ _ _ _ _ RA RWJ).mono ?_
      rintro e wK ⟨rfl, hbK⟩
      have RGK := RGJ.own hbK
      have TK := own_trans TJ hbK
      clear hbK RWJ RGJ RA TJ
      go_wp2_with fail
      refine (HHg.out _ _ _ RGK).mono ?_
      rintro e wL ⟨rfl, rfl⟩
      go_wp2
      go_ret
      exact ⟨rfl, TK⟩
  · have HZ := Lib.hid (fun w => szA_no ad bd s.length t.length ca cb (by omega) (by omega) hsz w)
    clear hs hi ra rb
    generalize s.length = n at *
    generalize t.length = m at *
    go_enter Try.func4, Try.ntmps4
    go_wp2_with fail
    refine (HZ.out _).mono ?_
    rintro e w1 ⟨rfl, hb1⟩
    go_wp2
    go_ret
    exact ⟨rfl, by repeat (first | with_reducible exact own_refl _ | with_reducible assumption | with_reducible apply own_alloc | with_reducible apply own_drewN | with_reducible apply own_drew | ((with_reducible refine own_setCell ?_ ?_ _); rotate_left; focus (first | (simp; done) | (simp; omega))) | (with_reducible (refine own_trans ?_ (by assumption))))⟩
theorem sumL_snocA (xs : List Int) : ∀ xss : List (List Int), sumL (xss ++ [xs]) = sumL xss + xs.length
  | [] => by simp [sumL]
  | ys :: xss => by
    have := sumL_snocA xs xss
    simp only [List.cons_append, sumL] at *
    omega
theorem cyQ_sum (t : List Int) (n : Nat) : ∀ k : Nat, sumL (cyQ t n k).2 + offs (cyQ t n k).1 ≤ n ∧ ∀ xs ∈ (cyQ t n k).2, xs.length ≤ n
  | 0 => by
    have := offs_le (List.replicate n false)
    simp [cyQ, sumL] at this ⊢
    exact this
  | k + 1 => by
    obtain ⟨h1, h2⟩ := cyQ_sum t n k
    rw [cyQ]
    split
    · have h3 := cyB_len t (n + 1) k (cyQ t n k).1
      refine ⟨by simp only [sumL_snocA]; omega, fun xs hx => ?_⟩
      rcases List.mem_append.1 hx with hx | hx
      · exact h2 xs hx
      · rw [List.mem_singleton] at hx
        subst hx
        omega
    · exact ⟨h1, h2⟩
theorem cyA_bd (s t : List Int) : (cyA s t).length ≤ 1000000 ∧ sumL (cyA s t) ≤ 1000000 ∧ ∀ xs ∈ cyA s t, xs.length ≤ 1000000 := by
  unfold cyA
  rcases hA : isA s t with _ | _
  · simp [sumL]
  · have h72 := (isA_is hA).n72
    have h1 := (cyQ_len t s.length s.length).2
    obtain ⟨h2, h3⟩ := cyQ_sum t s.length s.length
    simp only [if_true]
    refine ⟨by omega, by omega, fun xs hx => by have := h3 xs hx; omega⟩
theorem lawCyclesOf_walk (s t : List Int) (ad bd : Option Addr) (ca cb : Nat) (w : World) (ra : Rs w ad s) (rb : Rs w bd t) (ns : s.length ≤ 9223372036854775807) (nt : t.length ≤ 9223372036854775807) :
    Calls Try.prog 4 #[.agg #[.slice ad s.length ca, .slice bd t.length cb]] w fun e w' => e = .returned (.bool true) ∧ Below w.heap.size w w' :=
  lawCY_of s t ad bd ca cb _ (cyA_bd s t).1 (cyA_bd s t).2.1 (cyA_bd s t).2.2 _ (fun w u h => CYs_is s t ns u w h) (fun w u h => CYi_is s t ns u w h) w ra rb ns nt
end Go.Proofs.Ytfchfakkbdfajaa
