/- LeadByMatrix: the program. -/
import Derived.Test.YtfchfakkbdfajaaDoorLmB
import Derived.Test.YtfchfakkbdfajaaDoorAcPt
import Derived.Test.YtfchfakkbdfajaaDoorChJ
namespace Go.Proofs.YtfchfakkbdfajaaDoor
open Go.ChangeShapes Go.WideShapes Go.ChangeAt Go.RowKit

theorem chL_ent : ∀ (f : Nat) {a b c d : Int}, Det a b c d → c.natAbs ≤ f → (∀ x ∈ chL f a b c d, Ent x) ∧ 0 < (chL f a b c d).length := by
  intro f
  induction f with
  | zero =>
    intro a b c d h hf
    obtain rfl : c = 0 := by omega
    rw [ch_end.2]
    exact ⟨fun x hx => by rw [List.mem_singleton] at hx; rw [hx]; exact (det_last h).2, by simp⟩
  | succ f ih =>
    intro a b c d h hf
    by_cases hc : c = 0
    · subst hc
      rw [ch_end.2]
      exact ⟨fun x hx => by rw [List.mem_singleton] at hx; rw [hx]; exact (det_last h).2, by simp⟩
    · obtain ⟨k, q, x, y, hk, _, _, _, hq, _, _, _, H2, H3, H4⟩ := ch_round h hf hc
      obtain rfl : f = k := by omega
      have := ih H3.out H4.out
      rw [H2.out]
      exact ⟨fun z hz => by
        rcases List.mem_cons.1 hz with rfl | hz
        · exact hq
        · exact this.1 z hz, by simp⟩
/-- a point led on by S and a power of T for each number of a list -/
def ldF (s t : List Int) (n : Nat) : List Int → Nat → Nat
  | [], i => i
  | q :: r, i => ldF s t n r (pw t n q (pt s i))
/-- a point led by a chain -/
def ldM (s t : List Int) (n : Nat) (xs : List Int) (i : Nat) : Nat := ldF s t n (xs.drop 1) (pw t n (xs.getD 0 0) i)
theorem Gr.capd {w : World} {L n cap : Nat} {ad : Option Addr} {xs : List Int} (h : Gr w L (.slice ad n cap) xs) : n ≤ cap := by
  obtain ⟨hl, ⟨e, h0⟩ | ⟨g, cap', cur, e, hg, hh, hn, _⟩⟩ := h
  · injection e with e1 e2 e3; omega
  · injection e with e1 e2 e3; omega
set_option maxHeartbeats 8000000 in
theorem implLM_yes (s t : List Int) (ia : IsA s t s.length) (hA : isA s t = true) (hsl : s.length ≤ 9223372036854775807) (a b c d : Int) (h : isM a b c d = true) (j : Nat) (hj : j < s.length) (u : Value) (w : World) (hu : Ac w u s t) (hid : MxS w) :
    Calls Tryd.prog 18 #[u, (.agg #[.int .i64 a, .int .i64 b, .int .i64 c, .int .i64 d]), (.int .i64 ((j : Int)))] w fun e w' => e = .returned (.tuple #[(.int .i64 (((ldM s t s.length (chL c.natAbs a b c d) j : Nat) : Int))), (.int .i64 0)]) ∧ Below w.heap.size w w' := by
  have hent := isM_ent h
  have HCh := Lib.hid (fun w' (hb : Below w.heap.size w w') => implChain_gr c.natAbs a b c d h (Nat.le_refl _) (by obtain ⟨_, _, hc, _⟩ := hent; unfold Ent at hc; omega) w' (Rd.below hid hb))
  obtain ⟨hE, hL0⟩ := chL_ent c.natAbs (show Det a b c d from hent) (Nat.le_refl _)
  have hLl : (chL c.natAbs a b c d).length ≤ 1000000001 := by
    have := chL_len c.natAbs a b c d
    obtain ⟨_, _, hc, _⟩ := hent
    unfold Ent at hc
    omega
  have HI := Lib.hid (isA_at u s t hsl w hu)
  rw [hA] at HI
  have HP := Lib.hid (fun w' (h : Below w.heap.size w w') => hasP_is u s t s.length rfl (j : Int) true (decide_eq_true (by omega)) w' (hu.below h))
  have h72 := ia.n72
  have HB := Lib.hid (fun (q : Int) (hq : I64 q) (i : Nat) (hi : i < s.length) w' (h : Below w.heap.size w w') => show Calls Tryd.prog 45 #[u, (.int .i64 q), (.int .i64 ((i : Int)))] w' (fun e w'' => e = .returned (.int .i64 (((pw t s.length q i : Nat) : Int))) ∧ Below w'.heap.size w' w'') from by
    obtain ⟨x, y, rfl, hx, hy⟩ := hu.below h
    exact byPow_is x y s t s.length (by omega) ia.pS ia.pT q hq i hi w' hx hy)
  have HS := Lib.hid (fun (i : Nat) (hi : i < s.length) w' (h : Below w.heap.size w w') => show Calls Tryd.prog 46 #[u, (.int .i64 ((i : Int)))] w' (fun e w'' => e = .returned (.int .i64 (((pt s i : Nat) : Int))) ∧ Below w'.heap.size w' w'') from by
    obtain ⟨x, y, rfl, hx, hy⟩ := hu.below h
    exact byS_is x y s t s.length ia.pS ia.pT i hi w' hx hy)
  have HPW := Lib.hid (fun (q : Int) (i : Nat) (hi : i < s.length) => pw_lt ia.pT q hi)
  have HPS := Lib.hid (fun (i : Nat) (hi : i < s.length) => (ia.pS.at hi).2)
  have HLD : Hid (ldM s t s.length (chL c.natAbs a b c d) j = ldF s t s.length ((chL c.natAbs a b c d).drop 1) (pw t s.length ((chL c.natAbs a b c d).getD 0 0) j)) := Lib.hid rfl
  have HEN := Lib.hid hE
  generalize ldM s t s.length (chL c.natAbs a b c d) j = res at *
  generalize chL c.natAbs a b c d = xs at *
  generalize chS c.natAbs a b c d = sg at *
  obtain ⟨ad, k1, ad', k2, rfl⟩ := hu.shape
  clear hu hA ia hid hE hent
  generalize hn : s.length = n at *
  generalize t.length = m at *
  clear hn
  have B0 : Box ((w.alloc (.cells #[.slice ad n k1, .slice ad' m k2] 28)).alloc (.cells #[.int .i64 a, .int .i64 b, .int .i64 c, .int .i64 d] 38)) w.heap.size [.slice ad n k1, .slice ad' m k2] := (Box.new _ _ _).alloc _
  have T0 := own_alloc (own_alloc (own_refl w) (.cells #[.slice ad n k1, .slice ad' m k2] 28)) (.cells #[.int .i64 a, .int .i64 b, .int .i64 c, .int .i64 d] 38)
  go_enter Tryd.func18, Tryd.ntmps18
  go_wp2_with fail
  refine (HCh.out _ T0).mono ?_
  rintro e w2 ⟨v, rfl, G2, hb2⟩
  have T2 := own_trans T0 hb2
  have B2 := B0.below hb2
  obtain ⟨av, cv, e⟩ := G2.shape
  subst e
  have hcap := G2.capd
  clear hb2 T0 B0
  obtain ⟨-, b0, b1, -, -⟩ := B2.two
  go_wp2_with fail
  refine (HI.out _ T2).mono ?_
  rintro e w3 ⟨rfl, hb3⟩
  have T3 := own_trans T2 hb3
  have B3 := B2.below hb3
  have G3 := G2.own hb3
  clear hb3 T2 B2 G2 b0 b1
  obtain ⟨-, b0, b1, -, -⟩ := B3.two
  go_wp2_with fail
  refine (HP.out _ T3).mono ?_
  rintro e w4 ⟨rfl, hb4⟩
  have T4 := own_trans T3 hb4
  have B4 := B3.below hb4
  have G4 := G3.own hb4
  clear hb4 T3 B3 G3 b0 b1
  obtain ⟨-, b0, b1, -, -⟩ := B4.two
  obtain ⟨g, rfl, hg1, hg2, hcs⟩ := G4.cellsZ hL0
  have cq := (hcs 0 hL0).1
  have hq0 : I64 (xs.getD 0 0) := by have := HEN.out _ (getD_mem hL0); unfold Ent at this; unfold I64; omega
  have hp0 := HPW.out (xs.getD 0 0) j hj
  have HB0 := Lib.hid (HB.out (xs.getD 0 0) hq0 j hj)
  clear hcs
  generalize xs.getD 0 0 = q0 at *
  generalize pw t n q0 j = j1 at *
  go_upto_region 6 with fail
  go_cut [2] (fun x wx => x = (.int .i64 ((j1 : Int))) ∧ Below w.heap.size w wx ∧ Box wx w.heap.size [.slice ad n k1, .slice ad' m k2] ∧ (∃ L, Gr wx L (.slice (some ⟨g, 0, none⟩) xs.length cv) xs))
  case first =>
    go_region_held3 (fun w' => w'.cell? ⟨w.heap.size, 0, none⟩ = some (.slice ad n k1) ∧ w'.cell? ⟨w.heap.size, 1, none⟩ = some (.slice ad' m k2) ∧ w'.cell? ⟨g, 0, none⟩ = some (.int .i64 q0)) (go_keep)
      (first
        | (go_at_call 45; (with_reducible refine (HB0.out _ (own_drew T4)).mono ?_); rintro e w5 ⟨rfl, hb5⟩; have T5 := own_trans (own_drew T4) hb5; have B5 := (B4.drew).below hb5; have G5 := (G4.drew).own hb5; obtain ⟨-, c0, c1, -, -⟩ := B5.two; have cq5 := (hb5.cell (p := ⟨g, 0, none⟩) hg2).trans cq; clear hb5))
    all_goals
      go_wp2_with fail
      go_meet
      exact ⟨rfl, T5, B5, ⟨_, G5⟩⟩
  case rest =>
    clear T4 B4 G4 b0 b1 cq hg1 hg2
    obtain ⟨rfl, T, B, ⟨L, G⟩⟩ := hcut
    generalize hl : xs.length = l at *
    have HLl := Lib.hid hl
    clear hl
    go_upto_region 7 with fail
    go_cut [37, 38, 39] (fun v z y wx => ∃ ad2 c2, v = .slice ad2 (l - 1) c2 ∧ z = (.int .i64 (((l - 1 : Nat) : Int))) ∧ y = (.int .i64 0) ∧ (0 < l - 1 → ad2 = some ⟨g, 1, none⟩) ∧ wx = wc)
    case first => 
      by_cases hc1 : cv = 1
      · obtain rfl : l = 1 := by omega
        subst hc1
        go_wp2_with fail
        go_meet
        exact ⟨_, _, rfl, rfl, rfl, fun h => absurd h (by omega), rfl⟩
      · go_wp2_with fail
        go_meet
        exact ⟨_, _, rfl, rfl, rfl, fun _ => rfl, rfl⟩
    case rest =>
      obtain ⟨ad2, c2, rfl, rfl, rfl, hA2, rfl⟩ := hcut
      have HA2 := Lib.hid hA2
      clear hA2
      generalize hl1 : l - 1 = l1 at *
      have hll : l = l1 + 1 := by omega
      have HL1 := Lib.hid hll
      clear hl1 hll hcap hL0
      go_wp2_with fail
      go_loopw [2, 39] (fun x y wr => ∃ (k q : Nat), k ≤ l1 ∧ y = (.int .i64 ((k : Int))) ∧ x = (.int .i64 ((q : Int))) ∧ q < n ∧ Hid (ldF s t n (xs.drop (1 + k)) q = res) ∧ Below w.heap.size w wr ∧ Box wr w.heap.size [.slice ad n k1, .slice ad' m k2] ∧ (∃ L, Gr wr L (.slice (some ⟨g, 0, none⟩) l cv) xs)) (fun _ y _ => l1 - (intOf y).toNat)
      case atStart => exact ⟨0, j1, Nat.zero_le _, rfl, rfl, hp0, Lib.hid HLD.out.symm, T, B, ⟨L, G⟩⟩
      case round =>
        clear T B G
        obtain ⟨k, i, hk, rfl, rfl, hi, HK, T, B, ⟨L, G⟩⟩ := hrel
        obtain ⟨-, b0, b1, -, -⟩ := B.two
        by_cases hlt : k < l1
        · have HK1 : Hid (k + 1 ≤ l1 ∧ k < l1) := Lib.hid (by omega)
          have hkb : k + 1 ≤ 2000000000 := by have := HL1.out; omega
          obtain rfl := HA2.out (by omega)
          have hkx : 1 + k < xs.length := by rw [HLl.out, HL1.out]; omega
          obtain ⟨_, e, _, hgl, hcs⟩ := G.cellsZ (by have := HL1.out; omega)
          injection e with e; injection e with e; subst e
          have cq := (hcs (1 + k) (by have := HL1.out; omega)).1
          have hq : I64 (xs.getD (1 + k) 0) := by have := HEN.out _ (getD_mem hkx); unfold Ent at this; unfold I64; omega
          have HD : Hid (ldF s t n (xs.drop (1 + (k + 1))) (pw t n (xs.getD (1 + k) 0) (pt s i)) = res) := Lib.hid (by
            have h := HK.out
            rw [drop_at hkx] at h
            exact h)
          have hp1 := HPS.out i hi
          have hp2 := HPW.out (xs.getD (1 + k) 0) _ hp1
          have HSi := Lib.hid (HS.out i hi)
          have HBi := Lib.hid (HB.out _ hq _ hp1)
          clear hcs HK
          generalize xs.getD (1 + k) 0 = q at *
          generalize hy : pw t n q (pt s i) = i2 at *
          generalize pt s i = i1 at *
          clear hy
          go_wp2_with fail
          go_region_held3 (fun w' => w'.cell? ⟨w.heap.size, 0, none⟩ = some (.slice ad n k1) ∧ w'.cell? ⟨w.heap.size, 1, none⟩ = some (.slice ad' m k2)) (go_keep)
            (first
              | (go_at_call 45; (with_reducible refine (HBi.out _ T5).mono ?_); rintro e w6 ⟨rfl, hb6⟩; have T6 := own_trans T5 hb6; have B6 := B5.below hb6; have G6 := G5.own hb6; obtain ⟨-, c60, c61, -, -⟩ := B6.two; clear hb6)
              | (go_at_call 46; (with_reducible refine (HSi.out _ (own_drew T)).mono ?_); rintro e w5 ⟨rfl, hb5⟩; have T5 := own_trans (own_drew T) hb5; have B5 := (B.drew).below hb5; have G5 := (G.drew).own hb5; obtain ⟨-, c50, c51, -, -⟩ := B5.two; clear hb5))
          all_goals
            go_wp2
            go_roundw
            case rel => exact ⟨k + 1, i2, HK1.out.1, by go_num, rfl, hp2, HD, T6, B6, ⟨_, G6⟩⟩
            case measure => simp [intOf]; have := HK1.out; omega
        · have HE : Hid (((i : Nat) : Int) = (res : Int)) := Lib.hid (by
            have h := HK.out
            rw [List.drop_eq_nil_of_le (by have := HLl.out; have := HL1.out; omega)] at h
            have h2 : i = res := h
            rw [h2])
          go_wp2
          go_ret2
          exact ⟨by rw [← HE.out]; rfl, T⟩
end Go.Proofs.YtfchfakkbdfajaaDoor
