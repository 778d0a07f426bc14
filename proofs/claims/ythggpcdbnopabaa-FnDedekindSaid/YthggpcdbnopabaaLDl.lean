/- The walk of the law FnDedekind. -/
import Derived.Test.YthggpcdbnopabaaDla
import Derived.Test.YthggpcdbnopabaaDp8
import Derived.Test.YthggpcdbnopabaaLkI
namespace Go.Proofs.Ythggpcdbnopabaa
open Go.ChangeShapes Go.WideShapes Go.ChangeAt Go.RowKit

theorem inv_has {i c d : Int} (i1 : 1 ≤ i) (i2 : i ≤ d) (hg : Int.gcd c d = 1) (h : rst (i * c.tmod d) d = 1 % d) : i ∈ eqL c d (cop d d.toNat) := by
  have hd : 1 ≤ d := by omega
  have e1 : (c.tmod d) % d = c % d := by
    have := rst_emod c d hd
    unfold rst at this
    rwa [Int.add_emod_right] at this
  have e2 : (i * c) % d = 1 % d := by
    rw [← h, rst_emod _ _ hd, Int.mul_emod i (c.tmod d), e1, ← Int.mul_emod]
  have e3 := gcd_inv e2
  exact eqL_mem.2 ⟨cop_has d d.toNat i i1 (by omega) e3, ls_inv hd hg e3 e2⟩
theorem eqL_facts {h k : Int} (k1 : 1 ≤ k) (k2 : k ≤ 100) {u : Int} (hu : u ∈ eqL h k (cop k k.toNat)) : Ent u ∧ Int.gcd u k = 1 ∧ ls u k = ls h k := by
  obtain ⟨h1, h2⟩ := eqL_mem.1 hu
  have h3 := cop_mem k k.toNat u h1
  exact ⟨by unfold Ent; omega, cop_gcd k k.toNat u h1, h2⟩
theorem implDed_list {c d x y : Int} {xs : List Int} (d1 : 1 ≤ d) (d2 : d ≤ 100) (hxs : xs = eqL c d (cop d d.toNat)) (hx : lowP (ls c d) (12 * d) = x) (hy : lowQ (ls c d) (12 * d) = y) (u : Int) (hu : u ∈ xs) (w : World) : Calls Try.prog 6 #[(.int .i64 u), (.int .i64 d)] w (RetFc x y 0 w) := by
  rw [hxs] at hu
  obtain ⟨a1, a2, a3⟩ := eqL_facts d1 d2 hu
  exact implDed_at u d x y a1 d1 (by omega) a2 (by rw [a3]; exact hx) (by rw [a3]; exact hy) w
theorem inv_list {c d : Int} {xs : List Int} (hg : Int.gcd c d = 1) (hxs : xs = eqL c d (cop d d.toNat)) (i : Int) (i1 : 1 ≤ i) (i2 : i ≤ d) (h : rst (i * c.tmod d) d = 1 % d) : i ∈ xs := by
  rw [hxs]; exact inv_has i1 i2 hg h
set_option maxRecDepth 100000 in
set_option maxHeartbeats 8000000 in
theorem lawDedekind_walk (ad : Option Addr) (n cap : Nat) (w : World) (hA : CodeA w (.slice ad n cap)) (hn : ¬ (4096 : Int) < n) :
    Calls Try.prog 3 #[.slice ad n cap] w fun e w' => e = .returned (.bool true) ∧ Below w.heap.size w w' := by
  have HA := Lib.hid hA
  have hb0 : decide ((4096 : Int) < n) = false := decide_eq_false hn
  clear hA hn
  go_enter Try.func3, Try.ntmps3
  go_wp2_with fail
  refine (big_is ad n cap _).mono ?_
  rintro e w1 ⟨rfl, rfl⟩
  rw [hb0]
  go_wp2_with fail
  refine (drawDed_any _ _ HA.out).mono ?_
  rintro e w1 ⟨h, k, rfl, h0, h1, k0, k1, T1⟩
  obtain ⟨x, y, c, hs, hi, hc⟩ := ded_any h k
  have HS := Lib.hid hs
  have HI := Lib.hid hi
  have HC := Lib.hid hc
  clear hs hi hc
  go_wp2_with fail
  refine (HI.out _).mono ?_
  rintro e w2 ⟨rfl, hb2⟩
  have T2 := own_trans T1 hb2
  go_wp2_with fail
  refine (HS.out _).mono ?_
  rintro e w3 ⟨rfl, hb3⟩
  have BO : Box w3 w2.heap.size [.int .i64 x, .int .i64 y] := Box.below (Box.new _ _ _) hb3
  have T3 : Below w.heap.size w w3 := own_trans (own_alloc T2 _) hb3
  clear hb3 hb2
  have BO := BO.alloc (.cells #[.int .i64 x, .int .i64 y] 27)
  have BW : Box (w3.alloc (.cells #[.int .i64 x, .int .i64 y] 27)) w3.heap.size [.int .i64 x, .int .i64 y] := Box.new _ _ _
  have T3 := own_alloc T3 (.cells #[.int .i64 x, .int .i64 y] 27)
  have q1 := fun w => eq_fr_is true x y x y (by simp) w
  obtain ⟨_, _, _, _, _⟩ := BO.two
  obtain ⟨_, _, _, _, _⟩ := BW.two
  go_upto_if 80 with fail
  generalize w3.alloc (.cells #[.int .i64 x, .int .i64 y] 27) = wa at *
  go_cut [2] (fun s wx => s = .bool false ∧ Below w.heap.size w wx)
  case first =>
    as_aux_lemma =>
    rcases HC.out with ⟨rfl, he, k2, k3, hg, hx, hy⟩ | hc
    · have he' : Ent (-h) := by unfold Ent at *; omega
      have hr := rst_bd (x := h) k2
      have hrE : Ent (rst h k) := by unfold Ent; omega
      have hl := low_neg (p := ls h k) (q := 12 * k) (by omega)
      have HD1 := Lib.hid (fun w => implDed_at (rst h k) k x y hrE k2 k3 (gcd_rst k2 hg) (by rw [ls_rst k2]; exact hx) (by rw [ls_rst k2]; exact hy) w)
      have HD2 := Lib.hid (fun w => implDed_at (-h) k (-x) y he' k2 k3 (by rw [Int.neg_gcd]; exact hg) (by rw [ls_neg k2 hg, hl.1, hx]) (by rw [ls_neg k2 hg, hl.2, hy]) w)
      have hk0 : ¬ k = 0 := by omega
      have hrem := rem_bd (x := h) k2
      have e1 : IntKind.i64.wrap (h.tmod k) = h.tmod k := IntWalk.i64_in _ (by omega)
      have e2 : IntKind.i64.wrap (h.tmod k + k) = h.tmod k + k := IntWalk.i64_in _ (by omega)
      have e3 : IntKind.i64.wrap (-h) = -h := IntWalk.i64_in _ (by omega)
      have e4 : (h.tmod k + k).tmod k = rst h k := by unfold rst; exact Int.tmod_eq_emod_of_nonneg (by omega)
      have e5 : IntKind.i64.wrap (rst h k) = rst h k := IntWalk.i64_in _ (by omega)
      have hxb := tdiv_abs (ls h k) (dv (ls h k) (12 * k))
      have hlb := ls_bd k2 k3 hg
      rw [show (ls h k).tdiv (dv (ls h k) (12 * k)) = x from hx] at hxb
      have e6 : IntKind.i64.wrap (-x) = -x := IntWalk.i64_in _ (by omega)
      clear hx hy hl he he' hrE hg hr hxb hlb
      go_wp2_with fail
      refine (HD1.out _).mono ?_
      rintro e w4 ⟨rfl, hb4⟩
      have T4 := own_trans T3 hb4
      have BO := BO.below hb4
      clear hb4
      have T4 := own_alloc T4 (.cells #[.int .i64 x, .int .i64 y] 27)
      have BO := BO.alloc (.cells #[.int .i64 x, .int .i64 y] 27)
      have BS : Box (w4.alloc (.cells #[.int .i64 x, .int .i64 y] 27)) w4.heap.size [.int .i64 x, .int .i64 y] := Box.new _ _ _
      go_upto_region 10 with fail
      generalize w4.alloc (.cells #[.int .i64 x, .int .i64 y] 27) = wb at *
      generalize w4.heap.size = gs at *
      go_wp2_with fail
      refine (HD2.out _).mono ?_
      rintro e w5 ⟨rfl, hb5⟩
      have T5 := own_trans T4 hb5
      have BO := BO.below hb5
      have BS := BS.below hb5
      clear hb5
      have T5 := own_alloc T5 (.cells #[.int .i64 (-x), .int .i64 y] 27)
      have BO := BO.alloc (.cells #[.int .i64 (-x), .int .i64 y] 27)
      have BS := BS.alloc (.cells #[.int .i64 (-x), .int .i64 y] 27)
      have BN : Box (w5.alloc (.cells #[.int .i64 (-x), .int .i64 y] 27)) w5.heap.size [.int .i64 (-x), .int .i64 y] := Box.new _ _ _
      go_upto_region 11 with fail
      generalize w5.alloc (.cells #[.int .i64 (-x), .int .i64 y] 27) = wd at *
      generalize w5.heap.size = gn at *
      obtain ⟨_, _, _, _, _⟩ := BO.two
      obtain ⟨_, _, _, _, _⟩ := BS.two
      obtain ⟨_, _, _, _, _⟩ := BN.two
      go_wp2_with fail
      go_meet
      exact ⟨rfl, T5⟩
    · have hc' : (c == 0) = false := by simp [hc]
      go_wp2_with fail
      go_meet
      exact ⟨rfl, T3⟩
  case rest =>
    as_aux_lemma =>
    obtain ⟨rfl, T⟩ := hcut
    clear BO BW T3 T2 T1 HS HI HC
    have T0 := Lib.hid T
    clear T
    go_wp2_with fail
    refine (drawRcp_any _ _ (HA.out.below T0.out)).mono ?_
    rintro e w1 ⟨a, b, rfl, a0, a1, b0, b1, hb1⟩
    have T1 := own_trans T0.out hb1
    clear hb1
    obtain ⟨x2, y2, c2, hs, hi, hc⟩ := rcp_any a b
    have HS := Lib.hid hs
    have HI := Lib.hid hi
    have HC := Lib.hid hc
    clear hs hi hc
    go_wp2_with fail
    refine (HI.out _).mono ?_
    rintro e w2 ⟨rfl, hb2⟩
    have T2 := own_trans T1 hb2
    go_wp2_with fail
    refine (HS.out _).mono ?_
    rintro e w3 ⟨rfl, hb3⟩
    have BO : Box w3 w2.heap.size [.int .i64 x2, .int .i64 y2] := Box.below (Box.new _ _ _) hb3
    have T3 : Below w.heap.size w w3 := own_trans (own_alloc T2 _) hb3
    clear hb3 hb2
    have BO := BO.alloc (.cells #[.int .i64 x2, .int .i64 y2] 27)
    have BW : Box (w3.alloc (.cells #[.int .i64 x2, .int .i64 y2] 27)) w3.heap.size [.int .i64 x2, .int .i64 y2] := Box.new _ _ _
    have T3 := own_alloc T3 (.cells #[.int .i64 x2, .int .i64 y2] 27)
    have q1 := fun w => eq_fr_is true x2 y2 x2 y2 (by simp) w
    obtain ⟨_, _, _, _, _⟩ := BO.two
    obtain ⟨_, _, _, _, _⟩ := BW.two
    go_upto_region 18 with fail
    generalize w3.alloc (.cells #[.int .i64 x2, .int .i64 y2] 27) = wa at *
    generalize w2.heap.size = go at *
    obtain ⟨t, ht⟩ : ∃ t, decide (c2 = 0 ∧ a ≤ 300 ∧ b ≤ 300) = t := ⟨_, rfl⟩
    have HTT := Lib.hid ht
    clear ht
    go_cut [160] (fun s wx => s = .bool t ∧ wx = wa)
    case first =>
      as_aux_lemma =>
      rcases (show (c2 = 0 ∧ a ≤ 300 ∧ b ≤ 300) ∨ ¬ c2 = 0 ∨ (c2 = 0 ∧ ¬ a ≤ 300) ∨ (c2 = 0 ∧ a ≤ 300 ∧ ¬ b ≤ 300) by omega) with ⟨z1, z2, z3⟩ | z1 | ⟨z1, z2⟩ | ⟨z1, z2, z3⟩
      · have e1 : (c2 == 0) = true := by simp [z1]
        have e0 : decide (c2 = 0 ∧ a ≤ 300 ∧ b ≤ 300) = true := decide_eq_true ⟨z1, z2, z3⟩
        have e3 := HTT.out.symm.trans e0
        clear z1 e0
        go_wp2_with fail
        go_meet
        exact ⟨by rw [e3], rfl⟩
      · have e1 : (c2 == 0) = false := by simp [z1]
        have e0 : decide (c2 = 0 ∧ a ≤ 300 ∧ b ≤ 300) = false := decide_eq_false fun h => z1 h.1
        have e3 := HTT.out.symm.trans e0
        clear z1 e0
        go_wp2_with fail
        go_meet
        exact ⟨by rw [e3], rfl⟩
      · have e1 : (c2 == 0) = true := by simp [z1]
        have e0 : decide (c2 = 0 ∧ a ≤ 300 ∧ b ≤ 300) = false := decide_eq_false fun h => z2 h.2.1
        have e3 := HTT.out.symm.trans e0
        clear z1 e0
        go_wp2_with fail
        go_meet
        exact ⟨by rw [e3], rfl⟩
      · have e1 : (c2 == 0) = true := by simp [z1]
        have e0 : decide (c2 = 0 ∧ a ≤ 300 ∧ b ≤ 300) = false := decide_eq_false fun h => z3 h.2.2
        have e3 := HTT.out.symm.trans e0
        clear z1 e0
        go_wp2_with fail
        go_meet
        exact ⟨by rw [e3], rfl⟩
    case rest =>
      as_aux_lemma =>
      obtain ⟨rfl, rfl⟩ := hcut
      go_upto_if 160 with fail
      go_cut [2] (fun s wx => s = .bool false ∧ Below w.heap.size w wx)
      case first =>
        as_aux_lemma =>
        cases t
        · go_wp2_with fail
          go_meet
          exact ⟨rfl, T3⟩
        · obtain ⟨rfl, z2, z3⟩ := of_decide_eq_true HTT.out
          rcases HC.out with ⟨_, g1, g2, g3, g4, hg, hx, hy⟩ | hc
          · have hbA : Ent a := by unfold Ent; omega
            have hbB : Ent b := by unfold Ent; omega
            have hgc : Int.gcd b a = 1 := by rw [Int.gcd_comm]; exact hg
            obtain ⟨u0, hu0⟩ : ∃ u, lowP (ls a b) (12 * b) = u := ⟨_, rfl⟩
            obtain ⟨u1, hu1⟩ : ∃ u, lowQ (ls a b) (12 * b) = u := ⟨_, rfl⟩
            obtain ⟨v0, hv0⟩ : ∃ u, lowP (ls b a) (12 * a) = u := ⟨_, rfl⟩
            obtain ⟨v1, hv1⟩ : ∃ u, lowQ (ls b a) (12 * a) = u := ⟨_, rfl⟩
            have HD1 := Lib.hid (fun w => implDed_at a b u0 u1 hbA g3 g4 hg hu0 hu1 w)
            have HD2 := Lib.hid (fun w => implDed_at b a v0 v1 hbB g1 g2 hgc hv0 hv1 w)
            have hrec := low_recip g1 g3 hg hu0 hu1 hv0 hv1
            rw [hx, hy] at hrec
            have bu0 := tdiv_abs (ls a b) (dv (ls a b) (12 * b))
            have bv0 := tdiv_abs (ls b a) (dv (ls b a) (12 * a))
            have bu1 := tdiv_abs (12 * b) (dv (ls a b) (12 * b))
            have bv1 := tdiv_abs (12 * a) (dv (ls b a) (12 * a))
            rw [show (ls a b).tdiv (dv (ls a b) (12 * b)) = u0 from hu0] at bu0
            rw [show (ls b a).tdiv (dv (ls b a) (12 * a)) = v0 from hv0] at bv0
            rw [show (12 * b).tdiv (dv (ls a b) (12 * b)) = u1 from hu1] at bu1
            rw [show (12 * a).tdiv (dv (ls b a) (12 * a)) = v1 from hv1] at bv1
            have bl1 := ls_bd g3 g4 hg
            have bl2 := ls_bd g1 g2 hgc
            have m1 := mul_bd (a := u0) (d := v1) (A := 1200000000) (D := 3600) (by omega) (by omega)
            have m2 := mul_bd (a := v0) (d := u1) (A := 1200000000) (D := 3600) (by omega) (by omega)
            have m3 := mul_bd (a := u1) (d := v1) (A := 3600) (D := 3600) (by omega) (by omega)
            have e1 : IntKind.i64.wrap (u0 * v1) = u0 * v1 := IntWalk.i64_in _ (by omega)
            have e2 : IntKind.i64.wrap (v0 * u1) = v0 * u1 := IntWalk.i64_in _ (by omega)
            have e3 : IntKind.i64.wrap (u1 * v1) = u1 * v1 := IntWalk.i64_in _ (by omega)
            have e4 : IntKind.i64.wrap (u0 * v1 + v0 * u1) = u0 * v1 + v0 * u1 := IntWalk.i64_in _ (by omega)
            obtain ⟨x3, y3, c3, hf, hfc⟩ := frOf_any (u0 * v1 + v0 * u1) (u1 * v1)
            have HF := Lib.hid hf
            have HFC : Hid ((c3 = 0 ∧ x3 = x2 ∧ y3 = y2) ∨ ¬ c3 = 0) := Lib.hid (by
              rcases hfc with ⟨r1, r2, r3⟩ | r1
              · exact .inl ⟨r1, by rw [← r2, hrec.1], by rw [← r3, hrec.2]⟩
              · exact .inr r1)
            clear hf hfc hx hy hg hgc hu0 hu1 hv0 hv1 hrec bu0 bv0 bu1 bv1 bl1 bl2 m1 m2 m3 hbA hbB
            go_wp2_with fail
            refine (HD1.out _).mono ?_
            rintro e w4 ⟨rfl, hb4⟩
            have T4 := own_trans T3 hb4
            have BO := BO.below hb4
            clear hb4
            have T4 := own_alloc T4 (.cells #[.int .i64 u0, .int .i64 u1] 27)
            have BO := BO.alloc (.cells #[.int .i64 u0, .int .i64 u1] 27)
            have BS : Box (w4.alloc (.cells #[.int .i64 u0, .int .i64 u1] 27)) w4.heap.size [.int .i64 u0, .int .i64 u1] := Box.new _ _ _
            go_upto_region 20 with fail
            generalize w4.alloc (.cells #[.int .i64 u0, .int .i64 u1] 27) = wb at *
            generalize w4.heap.size = gs at *
            go_wp2_with fail
            refine (HD2.out _).mono ?_
            rintro e w5 ⟨rfl, hb5⟩
            have T5 := own_trans T4 hb5
            have BO := BO.below hb5
            have BS := BS.below hb5
            clear hb5
            have T5 := own_alloc T5 (.cells #[.int .i64 v0, .int .i64 v1] 27)
            have BO := BO.alloc (.cells #[.int .i64 v0, .int .i64 v1] 27)
            have BS := BS.alloc (.cells #[.int .i64 v0, .int .i64 v1] 27)
            have BN : Box (w5.alloc (.cells #[.int .i64 v0, .int .i64 v1] 27)) w5.heap.size [.int .i64 v0, .int .i64 v1] := Box.new _ _ _
            go_upto_region 21 with fail
            generalize w5.alloc (.cells #[.int .i64 v0, .int .i64 v1] 27) = wd at *
            generalize w5.heap.size = gn at *
            obtain ⟨_, _, _, _, _⟩ := BS.two
            obtain ⟨_, _, _, _, _⟩ := BN.two
            go_wp2_with fail
            refine (HF.out _).mono ?_
            rintro e w6 ⟨rfl, hb6⟩
            have T6 := own_trans T5 hb6
            have BO := BO.below hb6
            clear hb6
            have T6 := own_alloc T6 (.cells #[.int .i64 x3, .int .i64 y3] 27)
            have BO := BO.alloc (.cells #[.int .i64 x3, .int .i64 y3] 27)
            have BR : Box (w6.alloc (.cells #[.int .i64 x3, .int .i64 y3] 27)) w6.heap.size [.int .i64 x3, .int .i64 y3] := Box.new _ _ _
            go_upto_region 22 with fail
            generalize w6.alloc (.cells #[.int .i64 x3, .int .i64 y3] 27) = we at *
            generalize w6.heap.size = gt at *
            obtain ⟨_, _, _, _, _⟩ := BO.two
            obtain ⟨_, _, _, _, _⟩ := BR.two
            rcases HFC.out with ⟨rfl, rfl, rfl⟩ | hc3
            · go_wp2_with fail
              go_meet
              exact ⟨rfl, T6⟩
            · have hc3' : (c3 == 0) = false := by simp [hc3]
              go_wp2_with fail
              go_meet
              exact ⟨rfl, T6⟩
          · exact absurd rfl hc
      case rest =>
        as_aux_lemma =>
        obtain ⟨rfl, T⟩ := hcut
        clear BO BW T3 T2 T1 HS HI HC HTT
        have T0 := Lib.hid T
        clear T
        go_wp2_with fail
        refine (drawEq_any _ _ (HA.out.below T0.out)).mono ?_
        rintro e w1 ⟨c3, d, rfl, cb0, cb1, db0, db1, hb1⟩
        have T1 := own_trans T0.out hb1
        clear hb1
        obtain ⟨xs, k3, hs, hi, hlen, hc⟩ := eq_any c3 d
        have HS := Lib.hid hs
        have HI := Lib.hid hi
        have HC := Lib.hid hc
        clear hs hi hc
        go_wp2_with fail
        refine (HI.out _).mono ?_
        rintro e w2 ⟨v1, rfl, s1, hb2⟩
        have T2 := own_trans T1 hb2
        clear hb2
        go_wp2_with fail
        refine (HS.out _).mono ?_
        rintro e w3 ⟨v2, rfl, s2, hb3⟩
        have T3 := own_trans T2 hb3
        have s1 := s1.own hb3
        clear hb3
        go_wp2_with fail
        refine (likeInts_same v1 v2 xs _ _ _ _ _ (by omega) s1 s2).mono ?_
        rintro e w4 ⟨rfl, hb4⟩
        have T4 := own_trans T3 hb4
        have s1 := s1.own hb4
        clear hb4 T3 T2 T1 s2
        obtain ⟨m, hm⟩ : ∃ m, xs.length = m := ⟨_, rfl⟩
        have HM := Lib.hid hm
        obtain ⟨_, ad1, cap1, hv, _⟩ := id s1
        subst hv
        rw [hm] at hlen s1 ⊢
        clear hm
        have HS1 := Lib.hid s1
        clear s1
        go_upto_if 235 with fail
        go_cut [2] (fun s wx => s = .bool false ∧ Below w.heap.size w wx)
        case first =>
          as_aux_lemma =>
          obtain ⟨t5, ht5⟩ : ∃ b, (k3 == 0) = b := ⟨_, rfl⟩
          rw [ht5]
          rcases HC.out with ⟨rfl, hE, d1, d2, hg, hxs⟩ | hc
          · have ht5' : true = t5 := ht5
            subst ht5'
            clear ht5
            obtain ⟨x4, hx4⟩ : ∃ x, lowP (ls c3 d) (12 * d) = x := ⟨_, rfl⟩
            obtain ⟨y4, hy4⟩ : ∃ x, lowQ (ls c3 d) (12 * d) = x := ⟨_, rfl⟩
            have HDC := Lib.hid (fun w => implDed_at c3 d x4 y4 hE d1 (by omega) hg hx4 hy4 w)
            have HDU := Lib.hid (implDed_list d1 d2 hxs hx4 hy4)
            have HIN := Lib.hid (inv_list hg hxs)
            have q4 := fun w => eq_fr_is true x4 y4 x4 y4 (by simp) w
            have hrem := rem_bd (x := c3) d1
            clear hx4 hy4 hxs hg hE HS HI HC
            have HSX : Hid (∃ L U, Sl w4 L U (.slice ad1 m cap1) xs) := Lib.hid ⟨_, _, HS1.out⟩
            clear HS1
            go_wp2_with fail
            go_loopw [2, 31] (fun z i wr => z = .bool false ∧ ∃ j : Nat, j ≤ m ∧ i = (.int .i64 ((j : Int))) ∧ Below w.heap.size w wr ∧ Hid (∃ L U, Sl wr L U (.slice ad1 m cap1) xs)) (fun _ i _ => m - (intOf i).toNat)
            case atStart => exact ⟨rfl, 0, Nat.zero_le _, rfl, T4, HSX⟩
            case round =>
              as_aux_lemma =>
              obtain ⟨rfl, j, hj, rfl, T, HSL⟩ := hrel
              by_cases hlt : j < m
              · obtain ⟨L, U, hsl⟩ := HSL.out
                obtain ⟨-, -, hc⟩ := slice_at hsl
                obtain ⟨g, off, rfl, _, _, hcl⟩ := hc (by rw [HM.out]; omega)
                have c0 := (hcl j (by rw [HM.out]; exact hlt)).1
                have hu : xs.getD j 0 ∈ xs := mem_getD (by rw [HM.out]; exact hlt)
                have HU := Lib.hid (fun w => HDU.out _ hu w)
                have HSO : Hid (∀ w', Below wr.heap.size wr w' → ∃ L U, Sl w' L U (.slice (some ⟨g, off, none⟩) m cap1) xs) := Lib.hid (fun w' hb => ⟨_, _, hsl.own hb⟩)
                clear hcl hc hsl hu
                generalize xs.getD j 0 = u at *
                go_wp2_with fail
                refine (HU.out _).mono ?_
                rintro e w5 ⟨rfl, hb5⟩
                have B5 : Box (w5.alloc (.cells #[.int .i64 x4, .int .i64 y4] 27)) w5.heap.size [.int .i64 x4, .int .i64 y4] := Box.new _ _ _
                have T5 := own_alloc hb5 (.cells #[.int .i64 x4, .int .i64 y4] 27)
                clear hb5
                go_upto_region 34 with fail
                generalize w5.alloc (.cells #[.int .i64 x4, .int .i64 y4] 27) = wb at *
                generalize w5.heap.size = g5 at *
                go_wp2_with fail
                refine (HDC.out _).mono ?_
                rintro e w6 ⟨rfl, hb6⟩
                have B5 := (B5.below hb6).alloc (.cells #[.int .i64 x4, .int .i64 y4] 27)
                have B6 : Box (w6.alloc (.cells #[.int .i64 x4, .int .i64 y4] 27)) w6.heap.size [.int .i64 x4, .int .i64 y4] := Box.new _ _ _
                have T6 := own_alloc (own_trans T5 hb6) (.cells #[.int .i64 x4, .int .i64 y4] 27)
                clear hb6
                go_upto_region 35 with fail
                generalize w6.alloc (.cells #[.int .i64 x4, .int .i64 y4] 27) = wc6 at *
                generalize w6.heap.size = g6 at *
                obtain ⟨_, _, _, _, _⟩ := B5.two
                obtain ⟨_, _, _, _, _⟩ := B6.two
                go_wp2
                go_roundw
                case rel => exact ⟨rfl, j + 1, by omega, by go_num, own_trans T T6, Lib.hid (HSO.out _ T6)⟩
                case measure => simp [intOf]; omega
              · go_wp2
                go_loopw [2, 36] (fun z x wr => z = .bool false ∧ ∃ i : Int, x = (.int .i64 i) ∧ 1 ≤ i ∧ i ≤ d + 1 ∧ Below w.heap.size w wr ∧ Hid (∃ L U, Sl wr L U (.slice ad1 m cap1) xs)) (fun _ x _ => (d + 1 - intOf x).toNat)
                case atStart => exact ⟨rfl, 1, rfl, by omega, by omega, T, HSL⟩
                case round =>
                  as_aux_lemma =>
                  obtain ⟨rfl, i, rfl, i1, i2, T, HSL⟩ := hrel
                  by_cases hle : i ≤ d
                  · have hd0 : ¬ d = 0 := by omega
                    have HII := Lib.hid (fun h => HIN.out i i1 hle h)
                    obtain ⟨r, hr⟩ : ∃ r, c3.tmod d = r := ⟨_, rfl⟩
                    rw [hr] at hrem HII
                    have m1 := mul_bd (a := i) (d := r) (A := 100) (D := 100) (by omega) (by omega)
                    have hrem2 := rem_bd (x := i * r) d1
                    obtain ⟨z, hz⟩ : ∃ z, rst (i * r) d = z := ⟨_, rfl⟩
                    obtain ⟨o, ho⟩ : ∃ o, (1 : Int) % d = o := ⟨_, rfl⟩
                    have hz0 := rst_bd (x := i * r) d1
                    rw [hz] at hz0
                    have ho0 : 0 ≤ o ∧ o < d := by rw [← ho]; exact ⟨Int.emod_nonneg _ hd0, Int.emod_lt_of_pos _ (by omega)⟩
                    have e1 : IntKind.i64.wrap r = r := IntWalk.i64_in _ (by omega)
                    have e2 : IntKind.i64.wrap (i * r) = i * r := IntWalk.i64_in _ (by omega)
                    have e3 : IntKind.i64.wrap ((i * r).tmod d) = (i * r).tmod d := IntWalk.i64_in _ (by omega)
                    have e4 : IntKind.i64.wrap ((i * r).tmod d + d) = (i * r).tmod d + d := IntWalk.i64_in _ (by omega)
                    have e5 : ((i * r).tmod d + d) % d = z := hz
                    have e6 : ((i * r).tmod d + d).tmod d = z := by rw [Int.tmod_eq_emod_of_nonneg (by omega)]; exact hz
                    have e7 : IntKind.i64.wrap z = z := IntWalk.i64_in _ (by omega)
                    have e8 : (1 : Int).tmod d = o := by rw [Int.tmod_eq_emod_of_nonneg (by omega)]; exact ho
                    have e9 : IntKind.i64.wrap o = o := IntWalk.i64_in _ (by omega)
                    rw [hz, ho] at HII
                    clear hz m1 hrem2
                    obtain ⟨L, U, hsl⟩ := HSL.out
                    have hsd := hsl.own (own_drew (own_refl _))
                    have HSD : Hid (∃ L U, Sl wr.drew L U (.slice ad1 m cap1) xs) := Lib.hid ⟨_, _, hsd⟩
                    have TD := own_drew T
                    have HDN : Hid (∀ k, ∃ L U, Sl (wr.drewN k) L U (.slice ad1 m cap1) xs) := Lib.hid (fun k => ⟨_, _, hsl.own (own_drewN (own_refl _) k)⟩)
                    by_cases hzo : z = o
                    · have HH := Lib.hid (hasInt_yes _ xs i _ _ wr.drew (by rw [HM.out]; omega) hsd (HII.out hzo))
                      have f1 : (z == o) = true := by simp [hzo]
                      clear hzo HII hsl hsd HIN HDC HDU HSX HSL T4 q1 q4 HM
                      go_upto_region 40 with fail
                      go_region_held3 (fun _ => True) (trivial) (first | (go_at_call 16; refine (HH.out).mono ?_; rintro e w9 ⟨rfl, rfl⟩))
                      all_goals
                        go_wp2
                        go_roundw
                        case rel => exact ⟨rfl, i + 1, by go_num, by omega, by omega, TD, HSD⟩
                        case measure => simp [intOf]; omega
                    · have f1 : (z == o) = false := by simp [hzo]
                      clear hzo HII hsl hsd HIN HDC HDU HSX HSL T4 q1 q4 HM
                      go_upto_region 40 with fail
                      go_quiet (fail)
                      go_wp2
                      go_roundw
                      case rel => exact ⟨rfl, i + 1, by go_num, by omega, by omega, own_drewN T _, HDN.out _⟩
                      case measure => simp [intOf]; omega
                  · go_wp2_with fail
                    go_meet
                    exact ⟨rfl, T⟩
          · have hc' : (k3 == 0) = false := by simp [hc]
            rw [hc'] at ht5
            subst ht5
            go_wp2_with fail
            go_meet
            exact ⟨rfl, T4⟩
        case rest =>
          as_aux_lemma =>
          obtain ⟨rfl, T⟩ := hcut
          clear HS1 T4 HS HI HC HM
          have T0 := Lib.hid T
          clear T
          go_wp2_with fail
          refine (drawSums_any _ _ (HA.out.below T0.out)).mono ?_
          rintro e w1 ⟨z, rfl, hz, hb1⟩
          have T1 := own_trans T0.out hb1
          clear hb1
          obtain ⟨sn, sx, sc, hsn, hs, hi⟩ := sums_any z
          have HS := Lib.hid hs
          have HI := Lib.hid hi
          clear hs hi
          go_wp2_with fail
          refine (HI.out _).mono ?_
          rintro e w2 ⟨v1, rfl, s1, hb2⟩
          have T2 := own_trans T1 hb2
          clear hb2
          go_wp2_with fail
          refine (HS.out _).mono ?_
          rintro e w3 ⟨v2, rfl, s2, hb3⟩
          have T3 := own_trans T2 hb3
          have s1 := s1.own hb3
          clear hb3 HS HI
          go_wp2_with fail
          refine (drawTot_any _ _ (HA.out.below T3)).mono ?_
          rintro e w4 ⟨z2, rfl, hz2, hb4⟩
          have T4 := own_trans T3 hb4
          have s1 := s1.own hb4
          have s2 := s2.own hb4
          clear hb4 T1 T2 T3
          obtain ⟨tx, ty, tc, hs, hi⟩ := tot_any z2
          have HS := Lib.hid hs
          have HI := Lib.hid hi
          clear hs hi
          go_wp2_with fail
          refine (HI.out _).mono ?_
          rintro e w5 ⟨rfl, hb5⟩
          have T5 := own_alloc (own_trans T4 hb5) (.cells #[.int .i64 tx, .int .i64 ty] 27)
          have s1 := (s1.own hb5).own (own_alloc (own_refl _) (.cells #[.int .i64 tx, .int .i64 ty] 27))
          have s2 := (s2.own hb5).own (own_alloc (own_refl _) (.cells #[.int .i64 tx, .int .i64 ty] 27))
          have B1 : Box (w5.alloc (.cells #[.int .i64 tx, .int .i64 ty] 27)) w5.heap.size [.int .i64 tx, .int .i64 ty] := Box.new _ _ _
          clear hb5 T4
          go_upto_region 47 with fail
          generalize w5.alloc (.cells #[.int .i64 tx, .int .i64 ty] 27) = wa at *
          generalize w5.heap.size = g1 at *
          go_wp2_with fail
          refine (HS.out _).mono ?_
          rintro e w6 ⟨rfl, hb6⟩
          have T6 := own_alloc (own_trans T5 hb6) (.cells #[.int .i64 tx, .int .i64 ty] 27)
          have s1 := (s1.own hb6).own (own_alloc (own_refl _) (.cells #[.int .i64 tx, .int .i64 ty] 27))
          have s2 := (s2.own hb6).own (own_alloc (own_refl _) (.cells #[.int .i64 tx, .int .i64 ty] 27))
          have B1 := (B1.below hb6).alloc (.cells #[.int .i64 tx, .int .i64 ty] 27)
          have B2 : Box (w6.alloc (.cells #[.int .i64 tx, .int .i64 ty] 27)) w6.heap.size [.int .i64 tx, .int .i64 ty] := Box.new _ _ _
          clear hb6 T5 HS HI
          go_upto_region 48 with fail
          generalize w6.alloc (.cells #[.int .i64 tx, .int .i64 ty] 27) = wb at *
          generalize w6.heap.size = g2 at *
          go_wp2_with fail
          refine (drawSaw_any _ _ (HA.out.below T6)).mono ?_
          rintro e w7 ⟨p, q, rfl, _, _, _, _, hb7⟩
          have T7 := own_alloc (own_trans T6 hb7) (.cells #[.int .i64 p, .int .i64 q] 27)
          have s1 := (s1.own hb7).own (own_alloc (own_refl _) (.cells #[.int .i64 p, .int .i64 q] 27))
          have s2 := (s2.own hb7).own (own_alloc (own_refl _) (.cells #[.int .i64 p, .int .i64 q] 27))
          have B1 := (B1.below hb7).alloc (.cells #[.int .i64 p, .int .i64 q] 27)
          have B2 := (B2.below hb7).alloc (.cells #[.int .i64 p, .int .i64 q] 27)
          have B3 : Box (w7.alloc (.cells #[.int .i64 p, .int .i64 q] 27)) w7.heap.size [.int .i64 p, .int .i64 q] := Box.new _ _ _
          clear hb7 T6
          obtain ⟨fx, fy, fc, hs, hi⟩ := saw_any p q
          have HS := Lib.hid hs
          have HI := Lib.hid hi
          clear hs hi
          go_upto_region 49 with fail
          generalize w7.alloc (.cells #[.int .i64 p, .int .i64 q] 27) = wd at *
          generalize w7.heap.size = g3 at *
          obtain ⟨_, _, _, _, _⟩ := B3.two
          go_wp2_with fail
          refine (HI.out _).mono ?_
          rintro e w8 ⟨rfl, hb8⟩
          have T8 := own_alloc (own_trans T7 hb8) (.cells #[.int .i64 fx, .int .i64 fy] 27)
          have s1 := (s1.own hb8).own (own_alloc (own_refl _) (.cells #[.int .i64 fx, .int .i64 fy] 27))
          have s2 := (s2.own hb8).own (own_alloc (own_refl _) (.cells #[.int .i64 fx, .int .i64 fy] 27))
          have B1 := (B1.below hb8).alloc (.cells #[.int .i64 fx, .int .i64 fy] 27)
          have B2 := (B2.below hb8).alloc (.cells #[.int .i64 fx, .int .i64 fy] 27)
          have B3 := (B3.below hb8).alloc (.cells #[.int .i64 fx, .int .i64 fy] 27)
          have B4 : Box (w8.alloc (.cells #[.int .i64 fx, .int .i64 fy] 27)) w8.heap.size [.int .i64 fx, .int .i64 fy] := Box.new _ _ _
          clear hb8 T7
          go_upto_region 50 with fail
          generalize w8.alloc (.cells #[.int .i64 fx, .int .i64 fy] 27) = we at *
          generalize w8.heap.size = g4 at *
          obtain ⟨_, _, _, _, _⟩ := B3.two
          go_wp2_with fail
          refine (HS.out _).mono ?_
          rintro e w9 ⟨rfl, hb9⟩
          have T9 := own_alloc (own_trans T8 hb9) (.cells #[.int .i64 fx, .int .i64 fy] 27)
          have s1 := (s1.own hb9).own (own_alloc (own_refl _) (.cells #[.int .i64 fx, .int .i64 fy] 27))
          have s2 := (s2.own hb9).own (own_alloc (own_refl _) (.cells #[.int .i64 fx, .int .i64 fy] 27))
          have B1 := (B1.below hb9).alloc (.cells #[.int .i64 fx, .int .i64 fy] 27)
          have B2 := (B2.below hb9).alloc (.cells #[.int .i64 fx, .int .i64 fy] 27)
          have B4 := (B4.below hb9).alloc (.cells #[.int .i64 fx, .int .i64 fy] 27)
          have B5 : Box (w9.alloc (.cells #[.int .i64 fx, .int .i64 fy] 27)) w9.heap.size [.int .i64 fx, .int .i64 fy] := Box.new _ _ _
          clear hb9 T8 B3
          go_upto_region 51 with fail
          generalize w9.alloc (.cells #[.int .i64 fx, .int .i64 fy] 27) = wf at *
          generalize w9.heap.size = g5 at *
          go_wp2_with fail
          refine (fractions5_same v1 v2 sn sx _ _ _ _ _ (by omega) s1 s2).mono ?_
          rintro e w10 ⟨rfl, hb10⟩
          have T10 := own_trans T9 hb10
          obtain ⟨_, _, _, _, _⟩ := (B1.below hb10).two
          obtain ⟨_, _, _, _, _⟩ := (B2.below hb10).two
          obtain ⟨_, _, _, _, _⟩ := (B4.below hb10).two
          obtain ⟨_, _, _, _, _⟩ := (B5.below hb10).two
          have q2 := fun w => eq_fr_is true tx ty tx ty (by simp) w
          have q3 := fun w => eq_fr_is true fx fy fx fy (by simp) w
          go_wp2
          go_ret
          exact ⟨rfl, T10⟩
end Go.Proofs.Ythggpcdbnopabaa
