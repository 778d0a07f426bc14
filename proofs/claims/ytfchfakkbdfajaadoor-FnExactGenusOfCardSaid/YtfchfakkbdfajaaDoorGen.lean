/- GenusOf: contracts of both sides, and of l06Cusps; the law's walk where both sides answer alike. -/
import Derived.Test.YtfchfakkbdfajaaDoorB
import Derived.Test.YtfchfakkbdfajaaDoorCus
import Derived.Test.YtfchfakkbdfajaaDoorCuS
import Derived.Test.YtfchfakkbdfajaaDoorCc
import Derived.Test.YtfchfakkbdfajaaDoorIdx
namespace Go.Proofs.YtfchfakkbdfajaaDoor
open Go.ChangeShapes Go.WideShapes Go.ChangeAt Go.RowKit


theorem implGe_no (n : Int) (hn : inR n 1 60 = false) (w : World) : Calls Tryd.prog 20 #[(.int .i64 n)] w fun e w' => e = .returned (.tuple #[(.int .i64 0), (.int .i64 2)]) ∧ Below w.heap.size w w' := by
  have HK := Lib.hid (fun w => implKp_no n hn w)
  clear hn
  go_enter Tryd.func20, Tryd.ntmps20
  go_wp2_with fail
  refine (HK.out _).mono ?_
  rintro e w2 ⟨rfl, hb2⟩
  go_wp2
  go_ret2
  exact ⟨rfl, by repeat (first | with_reducible exact own_refl _ | with_reducible assumption | with_reducible apply own_alloc | with_reducible apply own_drewN | with_reducible apply own_drew | ((with_reducible refine own_setCell ?_ ?_ _); rotate_left; focus (first | (simp; done) | (simp; omega))) | (with_reducible (refine own_trans ?_ (by assumption))))⟩
theorem specGe_no (n : Int) (hn : inR n 1 60 = false) (w : World) : Calls Tryd.prog 19 #[(.int .i64 n)] w fun e w' => e = .returned (.tuple #[(.int .i64 0), (.int .i64 2)]) ∧ Below w.heap.size w w' := by
  have HN := Lib.hid hn
  clear hn
  go_enter Tryd.func19, Tryd.ntmps19
  go_wp2_with fail
  refine (l01In_is false _ _ _ HN.out _).mono ?_
  rintro e w2 ⟨rfl, rfl⟩
  go_wp2
  go_ret2
  exact ⟨rfl, by repeat (first | with_reducible exact own_refl _ | with_reducible assumption | with_reducible apply own_alloc | with_reducible apply own_drewN | with_reducible apply own_drew | ((with_reducible refine own_setCell ?_ ?_ _); rotate_left; focus (first | (simp; done) | (simp; omega))) | (with_reducible (refine own_trans ?_ (by assumption))))⟩
theorem cntF_le (xs : List Int) : ∀ k, cntF xs k ≤ k
  | 0 => Nat.le_refl _
  | k + 1 => by
    have := cntF_le xs k
    rw [cntF]
    split <;> omega
set_option maxHeartbeats 4000000 in
theorem specGe_yes (n : Int) (hn : inR n 1 60 = true) (N : Nat) (hN : (ln n).length = N) (G : Int) (hGe : (12 + (N : Int) - 3 * (cntF (ledL n 0 (-1) 1 0 (ln n)) N : Int) - 4 * (cntF (ledL n 1 (-1) 1 0 (ln n)) N : Int) - 6 * ((cus n N).2 : Int)).tdiv 12 = G) (w : World) :
    Calls Tryd.prog 19 #[(.int .i64 n)] w fun e w' => e = .returned (.tuple #[(.int .i64 G), (.int .i64 0)]) ∧ Below w.heap.size w w' := by
  have HN := Lib.hid hn
  have hn' : 1 ≤ n ∧ n ≤ 60 := of_decide_eq_true hn
  have HL := Lib.hid (fun w => l06Line_is n hn'.1 hn'.2 w)
  have HK := Lib.hid (fun v L w hG => l06Kept_is n hn'.1 hn'.2 v L w hG N hN)
  have HC := Lib.hid (fun v L w hG => l06Cusps_is n hn'.1 hn'.2 v L w hG N hN)
  have hlen : N ≤ 3600 := by rw [← hN]; exact ln_len hn'.2
  have hpl : (prs (ln n)).length = N := by simp [prs, hN]
  have b1 := cntF_le (ledL n 0 (-1) 1 0 (ln n)) N
  have b2 := cntF_le (ledL n 1 (-1) 1 0 (ln n)) N
  have b3 := (cus_len n N).2
  have HP := Lib.hid hpl
  generalize cntF (ledL n 0 (-1) 1 0 (ln n)) N = s at *
  generalize cntF (ledL n 1 (-1) 1 0 (ln n)) N = t at *
  generalize hcu : (cus n N).2 = u at *
  clear hcu hn hn' hN hpl
  have HGe := Lib.hid hGe
  clear hGe
  go_enter Tryd.func19, Tryd.ntmps19
  go_wp2_with fail
  refine (l01In_is true _ _ _ HN.out _).mono ?_
  rintro e w2 ⟨rfl, rfl⟩
  go_wp2_with fail
  refine (HL.out _).mono ?_
  rintro e w3 ⟨v, rfl, hG3, hb3⟩
  obtain ⟨ad, cap, hv⟩ := hG3.shape
  subst hv
  rw [HP.out] at hG3 ⊢
  go_wp2_with fail
  refine (HK.out _ _ _ hG3).mono ?_
  rintro e w4 ⟨rfl, hb4⟩
  have hG4 := hG3.own hb4
  go_wp2_with fail
  refine (HC.out _ _ _ hG4).mono ?_
  rintro e w5 ⟨v5, rfl, _, hb5⟩
  go_wp2
  rw [HGe.out]
  go_ret2
  exact ⟨rfl, by repeat (first | with_reducible exact own_refl _ | with_reducible assumption | with_reducible apply own_alloc | with_reducible apply own_drewN | with_reducible apply own_drew | ((with_reducible refine own_setCell ?_ ?_ _); rotate_left; focus (first | (simp; done) | (simp; omega))) | (with_reducible (refine own_trans ?_ (by assumption))))⟩
theorem genusOf_is (a b c d : Int) (ha : 0 ≤ a ∧ a ≤ 1000000) (hb : 0 ≤ b ∧ b ≤ 1000000) (hc : 0 ≤ c ∧ c ≤ 1000000) (hd : 0 ≤ d ∧ d ≤ 1000000) (G : Int) (hG : (12 + a - 3 * b - 4 * c - 6 * d).tdiv 12 = G) (w : World) :
    Calls Tryd.prog 51 #[(.int .i64 a), (.int .i64 b), (.int .i64 c), (.int .i64 d)] w fun e w' => e = .returned (.int .i64 G) ∧ w' = w := by
  have HG := Lib.hid hG
  clear hG
  go_enter Tryd.func51, Tryd.ntmps51
  go_wp2
  rw [HG.out]
  go_ret
  exact ⟨rfl, rfl⟩
set_option maxHeartbeats 4000000 in
theorem implGe_yes (n : Int) (hn : inR n 1 60 = true) (N : Nat) (hN : (ln n).length = N) (c : Int) (hc : ccs n n.toNat = c) (hcb : 0 ≤ c ∧ c ≤ 3600) (hx : md 999 2 (n * n * n) n / (n * ((cop n n.toNat).length : Int)) = N) (G : Int) (hGe : (12 + (N : Int) - 3 * (cntF (ledL n 0 (-1) 1 0 (ln n)) N : Int) - 4 * (cntF (ledL n 1 (-1) 1 0 (ln n)) N : Int) - 6 * c).tdiv 12 = G) (w : World) (hid : Idn w) (hmx : MxS w) :
    Calls Tryd.prog 20 #[(.int .i64 n)] w fun e w' => e = .returned (.tuple #[(.int .i64 G), (.int .i64 0)]) ∧ Below w.heap.size w w' := by
  have hn' : 1 ≤ n ∧ n ≤ 60 := of_decide_eq_true hn
  have HK := Lib.hid (implKp_yes n hn N hN w hid hmx)
  have HX := Lib.hid (fun w => implIdx_0 n hn'.1 (by omega) w)
  have HC := Lib.hid (fun w => implCc_yes n hn'.1 (by omega) w)
  rw [hx] at HX
  rw [hc] at HC
  have hlen : N ≤ 3600 := by rw [← hN]; exact ln_len hn'.2
  have b1 := cntF_le (ledL n 0 (-1) 1 0 (ln n)) N
  have b2 := cntF_le (ledL n 1 (-1) 1 0 (ln n)) N
  generalize cntF (ledL n 0 (-1) 1 0 (ln n)) N = s at *
  generalize cntF (ledL n 1 (-1) 1 0 (ln n)) N = t at *
  have HGe := Lib.hid hGe
  clear hGe hx hc hn hn' hN hid hmx
  go_enter Tryd.func20, Tryd.ntmps20
  go_wp2_with fail
  refine HK.out.mono ?_
  rintro e w2 ⟨rfl, hb2⟩
  go_wp2_with fail
  refine (HX.out _).mono ?_
  rintro e w3 ⟨rfl, hb3⟩
  go_wp2_with fail
  refine (HC.out _).mono ?_
  rintro e w4 ⟨rfl, hb4⟩
  go_wp2_with fail
  refine (genusOf_is _ _ _ _ (by omega) (by omega) (by omega) (by omega) _ HGe.out _).mono ?_
  rintro e w5 ⟨rfl, rfl⟩
  go_wp2
  go_ret2
  exact ⟨rfl, by repeat (first | with_reducible exact own_refl _ | with_reducible assumption | with_reducible apply own_alloc | with_reducible apply own_drewN | with_reducible apply own_drew | ((with_reducible refine own_setCell ?_ ?_ _); rotate_left; focus (first | (simp; done) | (simp; omega))) | (with_reducible (refine own_trans ?_ (by assumption))))⟩


set_option maxHeartbeats 2000000 in
theorem lawGenusOf_of (n0 : Int) (r00 : Int) (k : Int)
    (hs : ∀ w : World, Calls Tryd.prog 19 #[(.int .i64 n0)] w fun e w' => e = .returned (.tuple #[(.int .i64 r00), (.int .i64 k)]) ∧ Below w.heap.size w w')
    (hi : ∀ w : World, Idn w → MxS w → Calls Tryd.prog 20 #[(.int .i64 n0)] w fun e w' => e = .returned (.tuple #[(.int .i64 r00), (.int .i64 k)]) ∧ Below w.heap.size w w') (w : World) (hid0 : Idn w) (hid1 : MxS w) :
    Calls Tryd.prog 6 #[(.int .i64 n0)] w fun e w' => e = .returned (.bool true) ∧ Below w.heap.size w w' := by
  have HS := Lib.hid hs
  have HI := Lib.hid hi
  clear hs hi
  go_enter Tryd.func6, Tryd.ntmps6
  go_wp2_with fail
  refine (HS.out _).mono ?_
  rintro e w2 ⟨rfl, hb2⟩
  have T3 : Below w.heap.size w w2 := by repeat (first | with_reducible exact own_refl _ | with_reducible assumption | with_reducible apply own_alloc | with_reducible apply own_drewN | with_reducible apply own_drew | ((with_reducible refine own_setCell ?_ ?_ _); rotate_left; focus (first | (simp; done) | (simp; omega))) | (with_reducible (refine own_trans ?_ (by assumption))))
  have IX0 : Idn w2 := Rd.below hid0 T3
  have IX1 : MxS w2 := Rd.below hid1 T3
  go_wp2_with fail
  refine (HI.out _ IX0 IX1).mono ?_
  rintro e w4 ⟨rfl, hb4⟩
  go_wp2
  go_ret
  exact ⟨rfl, by repeat (first | with_reducible exact own_refl _ | with_reducible assumption | with_reducible apply own_alloc | with_reducible apply own_drewN | with_reducible apply own_drew | ((with_reducible refine own_setCell ?_ ?_ _); rotate_left; focus (first | (simp; done) | (simp; omega))) | (with_reducible (refine own_trans ?_ (by assumption))))⟩
end Go.Proofs.YtfchfakkbdfajaaDoor
