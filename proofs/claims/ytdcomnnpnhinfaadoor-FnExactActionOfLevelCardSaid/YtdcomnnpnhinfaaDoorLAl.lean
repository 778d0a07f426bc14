/- The walk of the law FnExactActionOfLevel. -/
import Derived.Test.YtdcomnnpnhinfaaDoorAlS
import Derived.Test.YtdcomnnpnhinfaaDoorMkAd
namespace Go.Proofs.YtdcomnnpnhinfaaDoor
open Go.ChangeShapes Go.WideShapes Go.ChangeAt Go.RowKit

theorem OnlyA.below {u : Value} {w wc w' : World} (h : OnlyA u wc w') (T : Below w.heap.size w wc) (hn : ∀ b, ownA u b → w.heap.size ≤ b) : Below w.heap.size w w' := by
  obtain ⟨x, y, w1, e, h1, h2⟩ := h
  have T1 := T.grown h1 T.size (fun b hb => hn b ⟨x, y, e, .inl hb⟩)
  exact T1.grown h2 T1.size (fun b hb => hn b ⟨x, y, e, .inr hb⟩)
set_option maxRecDepth 100000 in
set_option maxHeartbeats 16000000 in
theorem lawAl_of (x0 : Int) (p q : List Int) (hp : p.length ≤ 1000) (hq : q.length ≤ 1000) (kc : Int)
    (hs : ∀ (w : World), Calls Tryd.prog 8 #[(.int .i64 x0)] w (RetAl p q kc w))
    (hi : ∀ (w : World), MxS w → Calls Tryd.prog 9 #[(.int .i64 x0)] w (RetAl p q kc w)) (w : World) (hid : MxS w) :
    Calls Tryd.prog 3 #[(.int .i64 x0)] w fun e w' => e = .returned (.bool true) ∧ Below w.heap.size w w' := by
  have HEp := Lib.hid (fun u v L L' w hu hv => eqA_same u v p q L L' w (by omega) (by omega) hu hv)
  have HMg := Lib.hid (fun u L w hu => markA_any u p q L w (by omega) (by omega) hu)
  have HHg := Lib.hid (fun u L w hu => heldA_ramp u p.length q.length L w (by omega) (by omega) hu)
  have HS := Lib.hid hs
  have HI := Lib.hid hi
  have HM := Lib.hid hid
  clear hs hi hid
  generalize hP : p.length = P at *
  generalize hQ : q.length = Q at *
  have HN := Lib.hid (And.intro hP hQ)
  clear hP hQ
  go_enter Tryd.func3, Tryd.ntmps3
  go_wp2_with fail
  refine (HS.out _).mono ?_
  rintro e w3 ⟨v3, rfl, RW3, hb3⟩
  obtain ⟨a3, c3, b3, d3, e3⟩ := RW3.shape
  rw [HN.out.1, HN.out.2] at e3
  subst e3
  have hw : ∀ b, ownA (.agg #[.slice a3 P c3, .slice b3 Q d3]) b → w.heap.size ≤ b ∧ b < w3.heap.size := fun b hb => RW3.ownL hb
  have T3 := own_alloc hb3 (.cells #[.slice a3 P c3, .slice b3 Q d3] 24)
  have RW := RW3.own (own_alloc (own_refl w3) (.cells #[.slice a3 P c3, .slice b3 Q d3] 24))
  have W3 : Box (w3.alloc (.cells #[.slice a3 P c3, .slice b3 Q d3] 24)) w3.heap.size [.slice a3 P c3, .slice b3 Q d3] := Box.new _ _ _
  have hs3 : (w3.alloc (.cells #[.slice a3 P c3, .slice b3 Q d3] 24)).heap.size = w3.heap.size + 1 := by simp
  have hgw := hb3.size
  clear hb3 RW3
  go_upto_region 2 with fail
  generalize w3.alloc (.cells #[.slice a3 P c3, .slice b3 Q d3] 24) = w5 at *
  generalize w3.heap.size = gw at *
  clear w3
  go_wp2_with fail
  refine (HI.out _ (Rd.below HM.out T3)).mono ?_
  rintro e w6 ⟨v6, rfl, RG6, hb6⟩
  obtain ⟨a6, c6, b6, d6, e6⟩ := RG6.shape
  rw [HN.out.1, HN.out.2] at e6
  subst e6
  rw [hs3] at RG6
  have hg : ∀ b, ownA (.agg #[.slice a6 P c6, .slice b6 Q d6]) b → gw + 1 ≤ b ∧ b < w6.heap.size := fun b hb => RG6.ownL hb
  have T7 := own_alloc (own_trans T3 hb6) (.cells #[.slice a6 P c6, .slice b6 Q d6] 24)
  have RW7 := (RW.own hb6).own (own_alloc (own_refl w6) (.cells #[.slice a6 P c6, .slice b6 Q d6] 24))
  have RG7 := RG6.own (own_alloc (own_refl w6) (.cells #[.slice a6 P c6, .slice b6 Q d6] 24))
  have W7 := (W3.below hb6).alloc (.cells #[.slice a6 P c6, .slice b6 Q d6] 24)
  have G7 : Box (w6.alloc (.cells #[.slice a6 P c6, .slice b6 Q d6] 24)) w6.heap.size [.slice a6 P c6, .slice b6 Q d6] := Box.new _ _ _
  have hgg : gw < w6.heap.size := (W3.below hb6).1
  clear hb6 RG6 RW W3 T3 hs3
  go_upto_region 3 with fail
  generalize w6.alloc (.cells #[.slice a6 P c6, .slice b6 Q d6] 24) = w7 at *
  generalize w6.heap.size = gg at *
  clear w6
  obtain ⟨-, x1, x2, -, -⟩ := G7.two
  obtain ⟨-, x3, x4, -, -⟩ := W7.two
  go_wp2_with fail
  refine (HEp.out _ _ _ _ _ RG7 RW7).mono ?_
  rintro e wE ⟨rfl, hb8⟩
  have TE := own_trans T7 hb8
  have RWE := RW7.own hb8
  have RGE := RG7.own hb8
  have WE := W7.below hb8
  have GE := G7.below hb8
  clear hb8 RG7 RW7 W7 G7 T7 x1 x2 x3 x4
  obtain ⟨-, x1, x2, -, -⟩ := GE.two
  go_upto_region 6 with fail
  go_wp2_with fail
  refine (HMg.out _ _ _ RGE).mono ?_
  rintro e wF ⟨rfl, RGF, O⟩
  have RWF := O.acr RWE (fun b hb hb' => by have := hw b hb; have := hg b hb'; omega)
  have WF := O.box WE (fun hb' => by have := hg _ hb'; omega)
  have GF := O.box GE (fun hb' => by have := hg _ hb'; omega)
  have TF := O.below TE (fun b hb' => by have := hg b hb'; omega)
  clear O RWE RGE WE GE TE x1 x2
  obtain ⟨-, x1, x2, -, -⟩ := GF.two
  go_wp2_with fail
  refine (HHg.out _ _ _ RGF).mono ?_
  rintro e wG ⟨rfl, hbG⟩
  have RWG := RWF.own hbG
  have RGG := RGF.own hbG
  have WG := WF.below hbG
  have GG := GF.below hbG
  have TG := own_trans TF hbG
  clear hbG RWF RGF WF GF TF x1 x2
  go_upto_region 13 with fail
  go_wp2_with fail
  refine (HI.out _ (Rd.below HM.out TG)).mono ?_
  rintro e wI ⟨vA, rfl, RA, hbI⟩
  obtain ⟨aA, cA, bA, dA, eA⟩ := RA.shape
  rw [HN.out.1, HN.out.2] at eA
  subst eA
  have RWJ := (RWG.own hbI).own (own_alloc (own_refl wI) (.cells #[.slice aA P cA, .slice bA Q dA] 24))
  have RGJ := (RGG.own hbI).own (own_alloc (own_refl wI) (.cells #[.slice aA P cA, .slice bA Q dA] 24))
  have RAJ := RA.own (own_alloc (own_refl wI) (.cells #[.slice aA P cA, .slice bA Q dA] 24))
  have WJ := (WG.below hbI).alloc (.cells #[.slice aA P cA, .slice bA Q dA] 24)
  have GJ := (GG.below hbI).alloc (.cells #[.slice aA P cA, .slice bA Q dA] 24)
  have HJ : Box (wI.alloc (.cells #[.slice aA P cA, .slice bA Q dA] 24)) wI.heap.size [.slice aA P cA, .slice bA Q dA] := Box.new _ _ _
  have TJ := own_alloc (own_trans TG hbI) (.cells #[.slice aA P cA, .slice bA Q dA] 24)
  clear hbI RWG RGG RA WG GG TG
  go_upto_region 14 with fail
  generalize wI.alloc (.cells #[.slice aA P cA, .slice bA Q dA] 24) = wJ at *
  generalize wI.heap.size = gh at *
  clear wI
  obtain ⟨-, x1, x2, -, -⟩ := HJ.two
  obtain ⟨-, x3, x4, -, -⟩ := WJ.two
  go_wp2_with fail
  refine (HEp.out _ _ _ _ _ RAJ RWJ).mono ?_
  rintro e wK ⟨rfl, hbK⟩
  have RGK := RGJ.own hbK
  have GK := GJ.below hbK
  have TK := own_trans TJ hbK
  clear hbK RWJ RGJ RAJ WJ GJ HJ TJ x1 x2 x3 x4
  obtain ⟨-, x1, x2, -, -⟩ := GK.two
  go_wp2_with fail
  refine (HHg.out _ _ _ RGK).mono ?_
  rintro e wL ⟨rfl, hbL⟩
  have TL := own_trans TK hbL
  go_wp2
  go_ret
  exact ⟨rfl, TL⟩
/-- the index is the length of the line -/
theorem ixL_len {n : Int} (h1 : 1 ≤ n) (h2 : n ≤ 60) : ixL n = ((ln n).length : Int) := by
  obtain ⟨N, rfl⟩ : ∃ N : Nat, n = (N : Int) := ⟨n.toNat, by omega⟩
  have e := idx_zero (n := N) (by omega) (by omega)
  have e2 : ixL (N : Int) = mz 999 2 (N : Int) (N : Int) := e.symm
  rw [e2]
  by_cases h : mz 999 2 (N : Int) (N : Int) ≤ 72
  · exact (ln_index h1 h2 h).symm
  · exact (chkLq_all N (by omega) (by omega) (by omega)).symm
theorem lawAl_walk (n : Int) (_ : I64 n) (w : World) (hid : MxS w) : Calls Tryd.prog 3 #[(.int .i64 n)] w fun e w' => e = .returned (.bool true) ∧ Below w.heap.size w w' := by
  rcases hn : inR n 1 60 with _ | _
  · exact lawAl_of n [] [] (by simp) (by simp) 2 (fun w => specAl_no n hn w) (fun w _ => implAl_no n hn w) w hid
  · have hn' : 1 ≤ n ∧ n ≤ 60 := of_decide_eq_true hn
    have e := ixL_len hn'.1 hn'.2
    by_cases hx : 72 < (ln n).length
    · exact lawAl_of n [] [] (by simp) (by simp) 3 (fun w => specAl_big n hn _ rfl hx w) (fun w _ => implAl_big n hn (by omega) w) w hid
    · exact lawAl_of n _ _ (by rw [ledL_len']; omega) (by rw [ledL_len']; omega) 0 (fun w => specAl_yes n hn _ rfl (by omega) w) (fun w h => implAl_yes n hn (by omega) w h) w hid
end Go.Proofs.YtdcomnnpnhinfaaDoor
