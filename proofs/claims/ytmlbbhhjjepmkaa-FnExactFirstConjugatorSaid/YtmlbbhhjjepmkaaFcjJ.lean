/- FirstConjugator: the program's side. -/
import Derived.Test.YtmlbbhhjjepmkaaFcjI
import Derived.Test.YtmlbbhhjjepmkaaTwoB
import Derived.Test.YtmlbbhhjjepmkaaJump
namespace Go.Proofs.Ytmlbbhhjjepmkaa
open Go.ChangeShapes Go.WideShapes Go.ChangeAt Go.RowKit

set_option maxRecDepth 100000 in
set_option maxHeartbeats 4000000 in
theorem implFc_yes (m n : Mat) (hm : isM m.a m.b m.c m.d = true) (hn : isM n.a n.b n.c n.d = true) (k : Int) (h1 : 0 ≤ k) (h2 : k ≤ 3) (N : Nat) (hN : (N : Int) = 2 * k + 1) (len : Nat) (hlen : (al (-k) N N).length = 4 * len) (r : Mat) (kd : Int) (hF : FR m n (al (-k) N N) len r kd) (w : World) :
    Calls Try.prog 9 #[(.agg #[.int .i64 m.a, .int .i64 m.b, .int .i64 m.c, .int .i64 m.d]), (.agg #[.int .i64 n.a, .int .i64 n.b, .int .i64 n.c, .int .i64 n.d]), (.int .i64 k)] w fun e w' => e = .returned (.tuple #[(.agg #[.int .i64 r.a, .int .i64 r.b, .int .i64 r.c, .int .i64 r.d]), (.int .i64 kd)]) ∧ Below w.heap.size w w' := by
  have Hm := Lib.hid hm
  have Hn := Lib.hid hn
  have HE := Lib.hid (fun j => gAt_ent (al_small (lo := -k) (N := N) (by omega) (by omega) N (by omega)) j)
  have HEM := Lib.hid (entM_of hm)
  have HEN := Lib.hid (entM_of hn)
  have HMW := Lib.hid (fun w => implMw_yes k h1 h2 N hN w)
  obtain ⟨xs, hxs⟩ : ∃ xs, al (-k) N N = xs := ⟨_, rfl⟩
  rw [hxs] at HE HMW hlen hF
  have HL := Lib.hid hlen
  have HF := Lib.hid hF
  clear hm hn h1 h2 hN hxs hlen hF
  go_enter Try.func9, Try.ntmps9
  go_wp2
  go_step3
  go_wp2_with fail
  refine (implIs_M true m Hm.out _).mono ?_
  rintro e w1 ⟨rfl, hb1⟩
  have R1 : Box w1 (w.heap.size + 1 + 1) [.int .i64 0, .int .i64 0, .int .i64 0, .int .i64 0] := Box.below (Box.newAt (by simp) _ _) hb1
  have N1 : Box w1 (w.heap.size + 1) [.int .i64 n.a, .int .i64 n.b, .int .i64 n.c, .int .i64 n.d] := Box.below (Box.alloc (Box.newAt (by simp) _ _) _) hb1
  have M1 : Box w1 w.heap.size [.int .i64 m.a, .int .i64 m.b, .int .i64 m.c, .int .i64 m.d] := Box.below (Box.alloc (Box.alloc (Box.newAt (by simp) _ _) _) _) hb1
  have T1 : Below w.heap.size w w1 := by repeat (first | with_reducible exact own_refl _ | with_reducible assumption | with_reducible apply own_alloc | with_reducible apply own_drewN | with_reducible apply own_drew | ((with_reducible refine own_setCell ?_ ?_ _); rotate_left; focus (first | (simp; done) | (simp; omega))) | (with_reducible (refine own_trans ?_ (by assumption))))
  obtain ⟨_, _, _, _, _, _, _, _, _⟩ := N1.four
  go_wp2_with fail
  refine (implIs_M true n Hn.out _).mono ?_
  rintro e w2 ⟨rfl, hb2⟩
  go_wp2_with fail
  refine (HMW.out _).mono ?_
  rintro e w4 ⟨ln, hl5, v, rfl, hsl, hb4⟩
  obtain ⟨hl, hu, ad, cap, rfl, hc⟩ := hsl
  obtain rfl : ln = len := by have := HL.out; omega
  have HC := Lib.hid hc
  have hb24 := own_trans hb2 hb4
  have R4 := R1.below hb24
  have N4 := N1.below hb24
  have M4 := M1.below hb24
  have T4 := own_trans T1 hb24
  have z4 := N4.1
  clear hb1 hb2 hb4 hb24 hl hu hc R1 N1 M1 T1
  go_wp2
  go_step3
  go_wp2
  go_loopw [36] (fun i wr => ∃ j : Nat, j ≤ ln ∧ i = (.int .i64 j) ∧ Hid (∀ t, t < j → ¬ ldP m n (gAt xs t)) ∧ Below w4.heap.size w4 wr) (fun i _ => ln - (intOf i).toNat)
  case atStart => exact ⟨0, Nat.zero_le _, rfl, Lib.hid fun t ht => by omega, own_refl _⟩
  case round =>
    obtain ⟨j, hj, rfl, HD, T⟩ := hrel
    have Rr := R4.below T
    have Nr := N4.below T
    have Mr := M4.below T
    obtain ⟨_, _, _, _, _, _, _, _, _⟩ := Rr.four
    by_cases hlt : j < ln
    · obtain ⟨g, rfl, hgL, hgU, hcell⟩ := HC.out (by omega)
      obtain ⟨y, hy⟩ : ∃ y, gAt xs j = y := ⟨_, rfl⟩
      have HY := Lib.hid hy
      have c0 : wr.cell? ⟨g, j * 4, none⟩ = some (.int .i64 y.a) := by rw [T.cell (p := ⟨g, j * 4, none⟩) hgU, (hcell (j * 4) (by omega)).1, ← hy]; rfl
      have c1 : wr.cell? ⟨g, j * 4 + 1, none⟩ = some (.int .i64 y.b) := by rw [T.cell (p := ⟨g, j * 4 + 1, none⟩) hgU, (hcell (j * 4 + 1) (by omega)).1, ← hy]; rfl
      have c2 : wr.cell? ⟨g, j * 4 + 2, none⟩ = some (.int .i64 y.c) := by rw [T.cell (p := ⟨g, j * 4 + 2, none⟩) hgU, (hcell (j * 4 + 2) (by omega)).1, ← hy]; rfl
      have c3 : wr.cell? ⟨g, j * 4 + 3, none⟩ = some (.int .i64 y.d) := by rw [T.cell (p := ⟨g, j * 4 + 3, none⟩) hgU, (hcell (j * 4 + 3) (by omega)).1, ← hy]; rfl
      have HEY := Lib.hid (show entM y by rw [← hy]; exact HE.out j)
      clear hy hcell
      go_upto_region 9 with fail
      have BG : Box (wr.alloc (.cells #[.int .i64 y.a, .int .i64 y.b, .int .i64 y.c, .int .i64 y.d] 26)) wr.heap.size [.int .i64 y.a, .int .i64 y.b, .int .i64 y.c, .int .i64 y.d] := Box.new _ _ _
      have BM := Mr.alloc (.cells #[.int .i64 y.a, .int .i64 y.b, .int .i64 y.c, .int .i64 y.d] 26)
      have BN := Nr.alloc (.cells #[.int .i64 y.a, .int .i64 y.b, .int .i64 y.c, .int .i64 y.d] 26)
      have Rr5 := Rr.alloc (.cells #[.int .i64 y.a, .int .i64 y.b, .int .i64 y.c, .int .i64 y.d] 26)
      have TW := own_alloc T (.cells #[.int .i64 y.a, .int .i64 y.b, .int .i64 y.c, .int .i64 y.d] 26)
      obtain ⟨W0, hW0⟩ : ∃ W0, wr.alloc (.cells #[.int .i64 y.a, .int .i64 y.b, .int .i64 y.c, .int .i64 y.d] 26) = W0 := ⟨_, rfl⟩
      rw [hW0] at BG BM BN TW Rr5 ⊢
      clear hW0 c0 c1 c2 c3
      obtain ⟨p0, hp0⟩ : ∃ z, y.a * m.a + y.b * m.c = z := ⟨_, rfl⟩
      obtain ⟨p1, hp1⟩ : ∃ z, y.a * m.b + y.b * m.d = z := ⟨_, rfl⟩
      obtain ⟨p2, hp2⟩ : ∃ z, y.c * m.a + y.d * m.c = z := ⟨_, rfl⟩
      obtain ⟨p3, hp3⟩ : ∃ z, y.c * m.b + y.d * m.d = z := ⟨_, rfl⟩
      obtain ⟨q0, hq0⟩ : ∃ z, n.a * y.a + n.b * y.c = z := ⟨_, rfl⟩
      obtain ⟨q1, hq1⟩ : ∃ z, n.a * y.b + n.b * y.d = z := ⟨_, rfl⟩
      obtain ⟨q2, hq2⟩ : ∃ z, n.c * y.a + n.d * y.c = z := ⟨_, rfl⟩
      obtain ⟨q3, hq3⟩ : ∃ z, n.c * y.b + n.d * y.d = z := ⟨_, rfl⟩
      have HLD : Hid (ldP m n y ↔ (p0 = q0 ∧ p1 = q1 ∧ p2 = q2 ∧ p3 = q3)) := Lib.hid (by unfold ldP ld0 ld1 ld2 ld3; rw [hp0, hp1, hp2, hp3, hq0, hq1, hq2, hq3])
      have HC1 : Hid (∀ w : World, Calls Try.prog 19 #[(.agg #[.int .i64 y.a, .int .i64 y.b, .int .i64 y.c, .int .i64 y.d]), (.agg #[.int .i64 m.a, .int .i64 m.b, .int .i64 m.c, .int .i64 m.d])] w fun r w' => r = .returned (.agg #[.int .i64 p0, .int .i64 p1, .int .i64 p2, .int .i64 p3]) ∧ Below w.heap.size w w') := Lib.hid fun w => by
        obtain ⟨a1, a2, a3, a4⟩ := HEY.out
        obtain ⟨b1, b2, b3, b4⟩ := HEM.out
        have := multiply_ent y.a y.b y.c y.d m.a m.b m.c m.d a1 a2 a3 a4 b1 b2 b3 b4 w
        rwa [hp0, hp1, hp2, hp3] at this
      have HC2 : Hid (∀ w : World, Calls Try.prog 19 #[(.agg #[.int .i64 n.a, .int .i64 n.b, .int .i64 n.c, .int .i64 n.d]), (.agg #[.int .i64 y.a, .int .i64 y.b, .int .i64 y.c, .int .i64 y.d])] w fun r w' => r = .returned (.agg #[.int .i64 q0, .int .i64 q1, .int .i64 q2, .int .i64 q3]) ∧ Below w.heap.size w w') := Lib.hid fun w => by
        obtain ⟨a1, a2, a3, a4⟩ := HEY.out
        obtain ⟨b1, b2, b3, b4⟩ := HEN.out
        have := multiply_ent n.a n.b n.c n.d y.a y.b y.c y.d b1 b2 b3 b4 a1 a2 a3 a4 w
        rwa [hq0, hq1, hq2, hq3] at this
      clear hp0 hp1 hp2 hp3 hq0 hq1 hq2 hq3
      refine wp_region_inv (by kernel_rfl) (fun l a wx => ∃ t12 t13 t40 t41 t42 t43 t44 t45 : Value, a = { tmps := #[(.agg #[.int .i64 m.a, .int .i64 m.b, .int .i64 m.c, .int .i64 m.d]), (.agg #[.int .i64 n.a, .int .i64 n.b, .int .i64 n.c, .int .i64 n.d]), (.int .i64 k), .pointer (some ⟨w.heap.size, 0, none⟩), .pointer (some ⟨w.heap.size + 1, 0, none⟩), undef, .pointer (some ⟨w.heap.size + 1 + 1, 0, none⟩), u7, .slice (some ⟨g, 0, none⟩) ln cap, (.int .i64 0), undef, .pointer (some ⟨wr.heap.size, 0, none⟩), t12, t13, u14, u15, (.agg #[.int .i64 m.a, .int .i64 m.b, .int .i64 m.c, .int .i64 m.d]), .bool true, .bool false, .bool false, (.agg #[.int .i64 n.a, .int .i64 n.b, .int .i64 n.c, .int .i64 n.d]), .bool true, .bool false, .bool false, undef, .tuple #[.slice (some ⟨g, 0, none⟩) ln cap, (.int .i64 0)], (.int .i64 k), .tuple #[.slice (some ⟨g, 0, none⟩) ln cap, (.int .i64 0)], .slice (some ⟨g, 0, none⟩) ln cap, (.int .i64 0), (.int .i64 0), .bool false, undef, undef, .slice (some ⟨g, 0, none⟩) ln cap, (.int .i64 ln), (.int .i64 j), .bool true, .pointer (some ⟨g, j * 4, none⟩), (.agg #[.int .i64 y.a, .int .i64 y.b, .int .i64 y.c, .int .i64 y.d]), t40, t41, t42, t43, t44, t45, u46, u47, u48, u49, u50, u51, u52, u53, u54, u55, u56, u57, u58, undef], defers := [] } ∧ Below W0.heap.size W0 wx ∧ (l.getD 0 false = true → t40 = (.agg #[.int .i64 y.a, .int .i64 y.b, .int .i64 y.c, .int .i64 y.d])) ∧ (l.getD 1 false = true → t41 = (.agg #[.int .i64 m.a, .int .i64 m.b, .int .i64 m.c, .int .i64 m.d])) ∧ (l.getD 2 false = true → t42 = (.agg #[.int .i64 p0, .int .i64 p1, .int .i64 p2, .int .i64 p3])) ∧ (l.getD 3 false = true → t43 = (.agg #[.int .i64 n.a, .int .i64 n.b, .int .i64 n.c, .int .i64 n.d])) ∧ (l.getD 4 false = true → t44 = (.agg #[.int .i64 y.a, .int .i64 y.b, .int .i64 y.c, .int .i64 y.d])) ∧ (l.getD 5 false = true → t45 = (.agg #[.int .i64 q0, .int .i64 q1, .int .i64 q2, .int .i64 q3])) ∧ OneB W0.heap.size l 6 8 [.int .i64 p0, .int .i64 p1, .int .i64 p2, .int .i64 p3] t12 wx ∧ OneB W0.heap.size l 7 9 [.int .i64 q0, .int .i64 q1, .int .i64 q2, .int .i64 q3] t13 wx ∧ (l.getD 6 false = true → l.getD 7 false = true → t12 ≠ t13)) ?_ ?_ ?_ ?_
      · exact ⟨_, _, _, _, _, _, _, _, rfl, own_drew (own_refl W0), (fun h => absurd h (by decide)), (fun h => absurd h (by decide)), (fun h => absurd h (by decide)), (fun h => absurd h (by decide)), (fun h => absurd h (by decide)), (fun h => absurd h (by decide)), OneB.start _ _ _ _ _ _ _ (by decide) (by decide), OneB.start _ _ _ _ _ _ _ (by decide) (by decide), (fun h => absurd h (by decide))⟩
      · intro l a wx i o hl ho hi hun haft hI K' hK
        have hlt : i < l.size := by rw [hl]; exact hi
        have hl2 : l.size = 10 := hl
        have hi2 : i < 10 := hi
        obtain ⟨t12, t13, t40, t41, t42, t43, t44, t45, rfl, TX, C0, C1, C2, C3, C4, C5, D1, D2, DN⟩ := hI
        by_cases e0 : i = 0
        · subst e0
          obtain rfl := Option.some.inj (ho.symm.trans rfl)
          clear ho hi hi2
          obtain ⟨_, _, _, _, _, _, _, _, _⟩ := (Box.below BG TX).four
          go_simp
          refine hK.out _ _ ?_
          exact ⟨_, _, _, _, _, _, _, _, rfl, TX, (fun _ => rfl), keepL hlt (by decide) C1, keepL hlt (by decide) C2, keepL hlt (by decide) C3, keepL hlt (by decide) C4, keepL hlt (by decide) C5, D1.keep hlt (by decide) (by decide) (Below.refl _ _), D2.keep hlt (by decide) (by decide) (Below.refl _ _), (keepL hlt (by decide) fun h6 => keepL hlt (by decide) fun h7 => DN h6 h7)⟩
        by_cases e1 : i = 1
        · subst e1
          obtain rfl := Option.some.inj (ho.symm.trans rfl)
          clear ho hi hi2
          obtain ⟨_, _, _, _, _, _, _, _, _⟩ := (Box.below BM TX).four
          go_simp
          refine hK.out _ _ ?_
          exact ⟨_, _, _, _, _, _, _, _, rfl, TX, keepL hlt (by decide) C0, (fun _ => rfl), keepL hlt (by decide) C2, keepL hlt (by decide) C3, keepL hlt (by decide) C4, keepL hlt (by decide) C5, D1.keep hlt (by decide) (by decide) (Below.refl _ _), D2.keep hlt (by decide) (by decide) (Below.refl _ _), (keepL hlt (by decide) fun h6 => keepL hlt (by decide) fun h7 => DN h6 h7)⟩
        by_cases e2 : i = 2
        · subst e2
          obtain rfl := Option.some.inj (ho.symm.trans rfl)
          clear ho hi hi2
          have d0 := haft { on := 0, ground := .data } (by simp) rfl
          obtain rfl := C0 d0
          have d1 := haft { on := 1, ground := .data } (by simp) rfl
          obtain rfl := C1 d1
          go_simp
          refine (HC1.out _).mono ?_
          rintro e w2 ⟨rfl, hb2⟩
          refine hK.out _ _ ?_
          exact ⟨_, _, _, _, _, _, _, _, rfl, own_trans TX hb2, keepL hlt (by decide) C0, keepL hlt (by decide) C1, (fun _ => rfl), keepL hlt (by decide) C3, keepL hlt (by decide) C4, keepL hlt (by decide) C5, D1.keep hlt (by decide) (by decide) hb2, D2.keep hlt (by decide) (by decide) hb2, (keepL hlt (by decide) fun h6 => keepL hlt (by decide) fun h7 => DN h6 h7)⟩
        by_cases e3 : i = 3
        · subst e3
          obtain rfl := Option.some.inj (ho.symm.trans rfl)
          clear ho hi hi2
          obtain ⟨_, _, _, _, _, _, _, _, _⟩ := (Box.below BN TX).four
          go_simp
          refine hK.out _ _ ?_
          exact ⟨_, _, _, _, _, _, _, _, rfl, TX, keepL hlt (by decide) C0, keepL hlt (by decide) C1, keepL hlt (by decide) C2, (fun _ => rfl), keepL hlt (by decide) C4, keepL hlt (by decide) C5, D1.keep hlt (by decide) (by decide) (Below.refl _ _), D2.keep hlt (by decide) (by decide) (Below.refl _ _), (keepL hlt (by decide) fun h6 => keepL hlt (by decide) fun h7 => DN h6 h7)⟩
        by_cases e4 : i = 4
        · subst e4
          obtain rfl := Option.some.inj (ho.symm.trans rfl)
          clear ho hi hi2
          obtain ⟨_, _, _, _, _, _, _, _, _⟩ := (Box.below BG TX).four
          go_simp
          refine hK.out _ _ ?_
          exact ⟨_, _, _, _, _, _, _, _, rfl, TX, keepL hlt (by decide) C0, keepL hlt (by decide) C1, keepL hlt (by decide) C2, keepL hlt (by decide) C3, (fun _ => rfl), keepL hlt (by decide) C5, D1.keep hlt (by decide) (by decide) (Below.refl _ _), D2.keep hlt (by decide) (by decide) (Below.refl _ _), (keepL hlt (by decide) fun h6 => keepL hlt (by decide) fun h7 => DN h6 h7)⟩
        by_cases e5 : i = 5
        · subst e5
          obtain rfl := Option.some.inj (ho.symm.trans rfl)
          clear ho hi hi2
          have d0 := haft { on := 3, ground := .data } (by simp) rfl
          obtain rfl := C3 d0
          have d1 := haft { on := 4, ground := .data } (by simp) rfl
          obtain rfl := C4 d1
          go_simp
          refine (HC2.out _).mono ?_
          rintro e w2 ⟨rfl, hb2⟩
          refine hK.out _ _ ?_
          exact ⟨_, _, _, _, _, _, _, _, rfl, own_trans TX hb2, keepL hlt (by decide) C0, keepL hlt (by decide) C1, keepL hlt (by decide) C2, keepL hlt (by decide) C3, keepL hlt (by decide) C4, (fun _ => rfl), D1.keep hlt (by decide) (by decide) hb2, D2.keep hlt (by decide) (by decide) hb2, (keepL hlt (by decide) fun h6 => keepL hlt (by decide) fun h7 => DN h6 h7)⟩
        by_cases e6 : i = 6
        · subst e6
          obtain rfl := Option.some.inj (ho.symm.trans rfl)
          clear ho hi hi2
          have HD := Lib.hid (D1.lay TX.size hlt (by decide) hun 26)
          have HN := Lib.hid (fun h7 => (D2.new_ne h7).symm)
          go_simp
          refine hK.out _ _ ?_
          exact ⟨_, _, _, _, _, _, _, _, rfl, own_alloc TX _, keepL hlt (by decide) C0, keepL hlt (by decide) C1, keepL hlt (by decide) C2, keepL hlt (by decide) C3, keepL hlt (by decide) C4, keepL hlt (by decide) C5, HD.out, D2.keep hlt (by decide) (by decide) (own_alloc (own_refl _) _), (fun _ => keepL hlt (by decide) HN.out)⟩
        by_cases e7 : i = 7
        · subst e7
          obtain rfl := Option.some.inj (ho.symm.trans rfl)
          clear ho hi hi2
          have HD := Lib.hid (D2.lay TX.size hlt (by decide) hun 26)
          have HN := Lib.hid (fun h6 => D1.new_ne h6)
          go_simp
          refine hK.out _ _ ?_
          exact ⟨_, _, _, _, _, _, _, _, rfl, own_alloc TX _, keepL hlt (by decide) C0, keepL hlt (by decide) C1, keepL hlt (by decide) C2, keepL hlt (by decide) C3, keepL hlt (by decide) C4, keepL hlt (by decide) C5, D1.keep hlt (by decide) (by decide) (own_alloc (own_refl _) _), HD.out, (keepL hlt (by decide) fun h6 _ => HN.out h6)⟩
        by_cases e8 : i = 8
        · subst e8
          obtain rfl := Option.some.inj (ho.symm.trans rfl)
          clear ho hi hi2
          have d0 := haft { on := 6, ground := .data } (by simp) rfl
          have d1 := haft { on := 2, ground := .data } (by simp) rfl
          have d2 := haft { on := 7, ground := .phase } (by simp) rfl
          obtain rfl := C2 d1
          obtain ⟨b12, rfl, hb12, BZ⟩ := D1.zero d0 hun
          obtain ⟨_, _, _, _, _, _, _, _, _⟩ := BZ.four
          have HD := Lib.hid (D1.fill (b := b12) hlt (by decide) d0 hun)
          have HF := Lib.hid (D2.far (b := b12) (k := 8) hlt (by decide) (by decide) (fun h7 => (DN d0 h7).symm) (.int .i64 p0) (.int .i64 p1) (.int .i64 p2) (.int .i64 p3))
          go_simp
          refine hK.out _ _ ?_
          exact ⟨_, _, _, _, _, _, _, _, rfl, own_setCell (own_setCell (own_setCell (own_setCell TX hb12 _) hb12 _) hb12 _) hb12 _, keepL hlt (by decide) C0, keepL hlt (by decide) C1, keepL hlt (by decide) C2, keepL hlt (by decide) C3, keepL hlt (by decide) C4, keepL hlt (by decide) C5, HD.out, HF.out, (keepL hlt (by decide) fun h6 => keepL hlt (by decide) fun h7 => DN h6 h7)⟩
        by_cases e9 : i = 9
        · subst e9
          obtain rfl := Option.some.inj (ho.symm.trans rfl)
          clear ho hi hi2
          have d0 := haft { on := 7, ground := .data } (by simp) rfl
          have d1 := haft { on := 5, ground := .data } (by simp) rfl
          obtain rfl := C5 d1
          obtain ⟨b13, rfl, hb13, BZ⟩ := D2.zero d0 hun
          obtain ⟨_, _, _, _, _, _, _, _, _⟩ := BZ.four
          have HD := Lib.hid (D2.fill (b := b13) hlt (by decide) d0 hun)
          have HF := Lib.hid (D1.far (b := b13) (k := 9) hlt (by decide) (by decide) (fun h6 => DN h6 d0) (.int .i64 q0) (.int .i64 q1) (.int .i64 q2) (.int .i64 q3))
          go_simp
          refine hK.out _ _ ?_
          exact ⟨_, _, _, _, _, _, _, _, rfl, own_setCell (own_setCell (own_setCell (own_setCell TX hb13 _) hb13 _) hb13 _) hb13 _, keepL hlt (by decide) C0, keepL hlt (by decide) C1, keepL hlt (by decide) C2, keepL hlt (by decide) C3, keepL hlt (by decide) C4, keepL hlt (by decide) C5, HF.out, HD.out, (keepL hlt (by decide) fun h6 => keepL hlt (by decide) fun h7 => DN h6 h7)⟩
        omega
      · decide
      · intro l a wx hall hI
        obtain ⟨t12, t13, t40, t41, t42, t43, t44, t45, rfl, TX, C0, C1, C2, C3, C4, C5, D1, D2, _⟩ := hI
        obtain ⟨b12, rfl, hb12, B12⟩ := D1.box (hall 6 (by decide)) (hall 8 (by decide))
        obtain ⟨b13, rfl, hb13, B13⟩ := D2.box (hall 7 (by decide)) (hall 9 (by decide))
        have T5 := own_trans TW TX
        have R5 := Rr5.below TX
        have G5 := BG.below TX
        clear C0 C1 C2 C3 C4 C5 D1 D2 hall
        obtain ⟨_, _, _, _, _, _, _, _, _⟩ := B12.four
        obtain ⟨_, _, _, _, _, _, _, _, _⟩ := B13.four
        obtain ⟨_, _, _, _, _, _, _, _, _⟩ := R5.four
        obtain ⟨_, _, _, _, _, _, _, _, _⟩ := G5.four
        have i0 : ∀ w : World, (Instr.index 26 (.agg #[.int .i64 p0, .int .i64 p1, .int .i64 p2, .int .i64 p3]) (.int .i64 0)).run Try.prog w = .ok (.int .i64 p0) w := fun _ => by kernel_rfl
        have i1 : ∀ w : World, (Instr.index 26 (.agg #[.int .i64 p0, .int .i64 p1, .int .i64 p2, .int .i64 p3]) (.int .i64 1)).run Try.prog w = .ok (.int .i64 p1) w := fun _ => by kernel_rfl
        have i2 : ∀ w : World, (Instr.index 26 (.agg #[.int .i64 p0, .int .i64 p1, .int .i64 p2, .int .i64 p3]) (.int .i64 2)).run Try.prog w = .ok (.int .i64 p2) w := fun _ => by kernel_rfl
        have i3 : ∀ w : World, (Instr.index 26 (.agg #[.int .i64 p0, .int .i64 p1, .int .i64 p2, .int .i64 p3]) (.int .i64 3)).run Try.prog w = .ok (.int .i64 p3) w := fun _ => by kernel_rfl
        dsimp only
        by_cases h0 : p0 = q0
        · have b0 : (p0 != q0) = false := by simpa using h0
          by_cases h1 : p1 = q1
          · have b1 : (p1 != q1) = false := by simpa using h1
            by_cases h2 : p2 = q2
            · have b2 : (p2 != q2) = false := by simpa using h2
              by_cases h3 : p3 = q3
              · have b3 : (p3 != q3) = false := by simpa using h3
                have HH := Lib.hid (HF.out.hit hlt HD.out (by rw [HY.out]; exact HLD.out.2 ⟨h0, h1, h2, h3⟩))
                clear h0 h1 h2 h3
                go_wp2
                go_rounds 5
                rw [Exit.noGoto_ret]
                obtain ⟨z0, z1, z2, z3⟩ := R5.reads4C (.int .i64 y.a) (.int .i64 y.b) (.int .i64 y.c) (.int .i64 y.d)
                have TF := own_trans T4 T5
                obtain ⟨e1, e2⟩ := HH.out
                rw [HY.out] at e1
                subst e1 e2
                exact bodyPost_ret (v := .tuple #[(.agg #[.int .i64 r.a, .int .i64 r.b, .int .i64 r.c, .int .i64 r.d]), (.int .i64 0)]) (by simp [results, Try.results9, go_sem, z0, z1, z2, z3]) rfl ⟨rfl, by repeat (first | with_reducible exact own_refl _ | with_reducible assumption | with_reducible apply own_alloc | with_reducible apply own_drewN | with_reducible apply own_drew | ((with_reducible refine own_setCell ?_ ?_ _); rotate_left; focus (first | (simp; done) | (simp; omega))) | (with_reducible (refine own_trans ?_ (by assumption))))⟩
              · have b3 : (p3 != q3) = true := by simpa using h3
                have HD' := Lib.hid (noMore HD.out (fun h => by rw [HY.out] at h; exact h3 (HLD.out.1 h).2.2.2))
                clear h0 h1 h2 h3
                go_wp2
                go_rounds 5
                exact ⟨⟨j + 1, by omega, by go_num, HD', T5⟩, by simp [intOf]; omega⟩
            · have b2 : (p2 != q2) = true := by simpa using h2
              have HD' := Lib.hid (noMore HD.out (fun h => by rw [HY.out] at h; exact h2 (HLD.out.1 h).2.2.1))
              clear h0 h1 h2
              go_wp2
              go_rounds 5
              exact ⟨⟨j + 1, by omega, by go_num, HD', T5⟩, by simp [intOf]; omega⟩
          · have b1 : (p1 != q1) = true := by simpa using h1
            have HD' := Lib.hid (noMore HD.out (fun h => by rw [HY.out] at h; exact h1 (HLD.out.1 h).2.1))
            clear h0 h1
            go_wp2
            go_rounds 5
            exact ⟨⟨j + 1, by omega, by go_num, HD', T5⟩, by simp [intOf]; omega⟩
        · have b0 : (p0 != q0) = true := by simpa using h0
          have HD' := Lib.hid (noMore HD.out (fun h => by rw [HY.out] at h; exact h0 (HLD.out.1 h).1))
          clear h0
          go_wp2
          go_rounds 5
          exact ⟨⟨j + 1, by omega, by go_num, HD', T5⟩, by simp [intOf]; omega⟩
    · have HH := Lib.hid (HF.out.miss (by have : j = ln := by omega
                                          subst this; exact HD.out))
      go_wp2
      rw [Exit.noGoto_ret]
      obtain ⟨q0, q1, q2, q3⟩ := Rr.reads4C (.int .i64 0) (.int .i64 0) (.int .i64 0) (.int .i64 0)
      have TF := own_trans T4 T
      obtain ⟨e1, e2⟩ := HH.out
      subst e1 e2
      exact bodyPost_ret (v := .tuple #[(.agg #[.int .i64 0, .int .i64 0, .int .i64 0, .int .i64 0]), (.int .i64 4)]) (by simp [results, Try.results9, go_sem, q0, q1, q2, q3]) rfl ⟨rfl, by repeat (first | with_reducible exact own_refl _ | with_reducible assumption | with_reducible apply own_alloc | with_reducible apply own_drewN | with_reducible apply own_drew | ((with_reducible refine own_setCell ?_ ?_ _); rotate_left; focus (first | (simp; done) | (simp; omega))) | (with_reducible (refine own_trans ?_ (by assumption))))⟩
end Go.Proofs.Ytmlbbhhjjepmkaa
