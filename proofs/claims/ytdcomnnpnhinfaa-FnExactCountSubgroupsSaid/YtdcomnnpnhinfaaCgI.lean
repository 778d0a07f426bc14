/- CountSubgroups: the program's side. -/
import Derived.Test.YtdcomnnpnhinfaaAcA
import Derived.Test.YtdcomnnpnhinfaaCgM
namespace Go.Proofs.Ytdcomnnpnhinfaa
open Go.ChangeShapes Go.WideShapes Go.ChangeAt Go.RowKit

/-- a list of N numbers, those ahead of k told by f, the others 0 -/
def stp (f : Nat → Int) (N k : Nat) : List Int := (List.range N).map fun i => if i < k then f i else 0
theorem wrapE (x : Int) : IntKind.i64.wrap x = wrap64 x := by simp [IntKind.wrap_i64, wrap64]
theorem stp_len (f : Nat → Int) (N k : Nat) : (stp f N k).length = N := by simp [stp]
theorem stp_at {f : Nat → Int} {N k i : Nat} (hN : i < N) (hk : i < k) : (stp f N k).getD i 0 = f i := by simp [stp, List.getD, hN, hk]
theorem stp_out {f : Nat → Int} {N k i : Nat} (hi : k ≤ i) : (stp f N k).getD i 0 = 0 := by
  by_cases h : i < N
  · simp [stp, List.getD, h, Nat.not_lt.2 hi]
  · simp [stp, List.getD, h]
theorem set_at {xs : List Int} {i k : Nat} {y : Int} (h : i ≠ k) : (xs.set k y).getD i 0 = xs.getD i 0 := by simp [List.getD, List.getElem?_set_ne (Ne.symm h)]
theorem set_here {xs : List Int} {k : Nat} {y : Int} (h : k < xs.length) : (xs.set k y).getD k 0 = y := by simp [List.getD, h]
theorem stp_zero (f : Nat → Int) (N : Nat) : stp f N 0 = List.replicate N 0 := by
  refine List.ext_getElem (by simp [stp]) fun i h1 h2 => ?_
  simp [stp]
theorem stp_set (f : Nat → Int) (N k : Nat) : (stp f N k).set k (f k) = stp f N (k + 1) := by
  refine List.ext_getElem (by simp [stp]) fun i h1 h2 => ?_
  simp only [stp, List.getElem_set, List.getElem_map, List.getElem_range]
  by_cases e : k = i
  · subst e; simp
  · rw [if_neg e]
    by_cases h : i < k
    · rw [if_pos h, if_pos (by omega)]
    · rw [if_neg h, if_neg (by omega)]
theorem stp_congr {f g : Nat → Int} {N k : Nat} (h : ∀ i < k, f i = g i) : stp f N k = stp g N k := by
  refine List.map_congr_left fun i _ => ?_
  by_cases h2 : i < k
  · rw [if_pos h2, if_pos h2, h i h2]
  · rw [if_neg h2, if_neg h2]
theorem Gr.put' {w : World} {L g : Nat} {n cap k : Nat} {y : Int} {xs : List Int} (h : Gr w L (.slice (some ⟨g, 0, none⟩) n cap) xs) (hn : xs.length = n) (hk : k < n) :
    Gr (w.setCell ⟨g, k, none⟩ (.int .i64 y)) L (.slice (some ⟨g, 0, none⟩) n cap) (xs.set k y) := by
  subst hn
  exact h.putZ hk
theorem Gr.at' {w : World} {L B n cap k : Nat} {xs : List Int} {x : Int} (h : Gr w L (.slice (some ⟨B, 0, none⟩) n cap) xs) (hk : k < n) (hx : xs.getD k 0 = x) : w.cell? ⟨B, k, none⟩ = some (.int .i64 x) ∧ w.frozen? ⟨B, k, none⟩ = false := by
  obtain ⟨g, e, _, _, hc⟩ := h.cellsZ (by omega)
  injection e with e
  injection e with e
  subst e
  rw [← hx]
  exact hc k hk
theorem grownSet (w : World) (p : Addr) (u : Value) : w.grownBy (w.setCell p u) (some p.block) :=
  ⟨rfl, rfl, rfl, by simp [World.setCell], fun k _ hk => Below.heap_setCell w p u k (fun e => hk (by rw [e]))⟩
theorem Gr.far' {w : World} {L : Nat} {g n cap : Nat} {xs : List Int} (h : Gr w L (.slice (some ⟨g, 0, none⟩) n cap) xs) {p : Addr} (hp : g ≠ p.block) (u : Value) : Gr (w.setCell p u) L (.slice (some ⟨g, 0, none⟩) n cap) xs := by
  refine World.ownsRow.kept h (grownSet w p u) ?_
  exact .inr fun he => hp (by simp [Value.ownBlock] at he; exact he)
/-- three lists that are made -/
theorem cutG {w wx : World} {g1 g2 g3 n : Nat} (h1 : Gr wx w.heap.size (.slice (some ⟨g1, 0, none⟩) n n) (List.replicate n 0)) (h2 : Gr wx w.heap.size (.slice (some ⟨g2, 0, none⟩) n n) (List.replicate n 0)) (h3 : Gr wx w.heap.size (.slice (some ⟨g3, 0, none⟩) n n) (List.replicate n 0))
    (t : Below w.heap.size w wx) (n1 : g1 ≠ g2) (n2 : g1 ≠ g3) (n3 : g2 ≠ g3) :
    ∃ g1' g2' g3', Value.slice (some ⟨g1, 0, none⟩) n n = .slice (some ⟨g1', 0, none⟩) n n ∧ Value.slice (some ⟨g2, 0, none⟩) n n = .slice (some ⟨g2', 0, none⟩) n n ∧ Value.slice (some ⟨g3, 0, none⟩) n n = .slice (some ⟨g3', 0, none⟩) n n ∧
      Gr wx w.heap.size (.slice (some ⟨g1', 0, none⟩) n n) (List.replicate n 0) ∧ Gr wx w.heap.size (.slice (some ⟨g2', 0, none⟩) n n) (List.replicate n 0) ∧ Gr wx w.heap.size (.slice (some ⟨g3', 0, none⟩) n n) (List.replicate n 0) ∧ Below w.heap.size w wx ∧ g1' ≠ g2' ∧ g1' ≠ g3' ∧ g2' ≠ g3' :=
  ⟨g1, g2, g3, rfl, rfl, rfl, h1, h2, h3, t, n1, n2, n3⟩
set_option maxRecDepth 100000 in
set_option maxHeartbeats 4000000 in
theorem countPairs_is (N : Nat) (hN : N ≤ 12) (w : World) : Calls Try.prog 31 #[(.int .i64 ((N : Int)))] w fun e w' => ∃ v, e = .returned v ∧ Gr w' w.heap.size v (stp prk (N + 1) (N + 1)) ∧ Below w.heap.size w w' := by
  have hmk : ∀ w : World, (Instr.makeSlice 46 (.int .i64 ((N : Int) + 1)) (.int .i64 ((N : Int) + 1))).run Try.prog w = .ok (.slice (some ⟨w.heap.size, 0, none⟩) (N + 1) (N + 1)) (w.alloc (.cells (Array.replicate (N + 1) (.int .i64 0)) 2)) := fun w => mk64 (N + 1) (by omega) w
  have hN2 : N + 1 ≤ 1048576 := by omega
  go_enter Try.func31, Try.ntmps31
  go_upto_region 1 with fail
  go_cut [3, 4, 5] (fun a b c wx => ∃ g1 g2 g3, a = .slice (some ⟨g1, 0, none⟩) (N + 1) (N + 1) ∧ b = .slice (some ⟨g2, 0, none⟩) (N + 1) (N + 1) ∧ c = .slice (some ⟨g3, 0, none⟩) (N + 1) (N + 1) ∧
    Gr wx w.heap.size (.slice (some ⟨g1, 0, none⟩) (N + 1) (N + 1)) (List.replicate (N + 1) 0) ∧ Gr wx w.heap.size (.slice (some ⟨g2, 0, none⟩) (N + 1) (N + 1)) (List.replicate (N + 1) 0) ∧ Gr wx w.heap.size (.slice (some ⟨g3, 0, none⟩) (N + 1) (N + 1)) (List.replicate (N + 1) 0) ∧ Below w.heap.size w wx ∧ g1 ≠ g2 ∧ g1 ≠ g3 ∧ g2 ≠ g3)
  case first =>
    go_region
    all_goals
      go_wp2_with fail
      go_meet
      apply cutG
      · repeat (first | ((with_reducible refine Gr.lit0 ?_ ?_ (N + 1) hN2); (focus (simp; done)); (focus (first | (simp; done) | (simp; omega) | omega))) | with_reducible apply Gr.drew | with_reducible apply Gr.alloc)
      · repeat (first | ((with_reducible refine Gr.lit0 ?_ ?_ (N + 1) hN2); (focus (simp; done)); (focus (first | (simp; done) | (simp; omega) | omega))) | with_reducible apply Gr.drew | with_reducible apply Gr.alloc)
      · repeat (first | ((with_reducible refine Gr.lit0 ?_ ?_ (N + 1) hN2); (focus (simp; done)); (focus (first | (simp; done) | (simp; omega) | omega))) | with_reducible apply Gr.drew | with_reducible apply Gr.alloc)
      · repeat (first | with_reducible exact own_refl _ | with_reducible assumption | with_reducible apply own_alloc | with_reducible apply own_drewN | with_reducible apply own_drew | ((with_reducible refine own_setCell ?_ ?_ _); rotate_left; focus (first | (simp; done) | (simp; omega))) | (with_reducible (refine own_trans ?_ (by assumption))))
      all_goals omega
  case rest =>
    obtain ⟨g1, g2, g3, rfl, rfl, rfl, G1, G2, G3, T, n1, n2, n3⟩ := hcut
    clear hmk
    obtain ⟨_, e1, l1, u1, c1⟩ := G1.cellsZ (by omega)
    injection e1 with e1; injection e1 with e1; subst e1
    obtain ⟨_, e2, l2, u2, c2⟩ := G2.cellsZ (by omega)
    injection e2 with e2; injection e2 with e2; subst e2
    obtain ⟨_, e3, l3, u3, c3⟩ := G3.cellsZ (by omega)
    injection e3 with e3; injection e3 with e3; subst e3
    have n1' : ¬ g2 = g1 := fun h => n1 h.symm
    have n2' : ¬ g3 = g1 := fun h => n2 h.symm
    have n3' : ¬ g3 = g2 := fun h => n3 h.symm
    have z1 : ¬ g1 = g2 := n1
    have z2 : ¬ g1 = g3 := n2
    have z3 : ¬ g2 = g3 := n3
    obtain ⟨a1, f1⟩ := c1 0 (by omega)
    obtain ⟨a2, f2⟩ := c2 0 (by omega)
    obtain ⟨a3, f3⟩ := c3 0 (by omega)
    clear c1 c2 c3
    have G1 := ((G1.put' (k := 0) (y := 1) (by simp) (by omega)).far' (p := ⟨g2, 0, none⟩) n1 (.int .i64 1)).far' (p := ⟨g3, 0, none⟩) n2 (.int .i64 1)
    have G2 := ((G2.far' (p := ⟨g1, 0, none⟩) n1' (.int .i64 1)).put' (k := 0) (y := 1) (by simp) (by omega)).far' (p := ⟨g3, 0, none⟩) n3 (.int .i64 1)
    have G3 := ((G3.far' (p := ⟨g1, 0, none⟩) n2' (.int .i64 1)).far' (p := ⟨g2, 0, none⟩) n3' (.int .i64 1)).put' (k := 0) (y := 1) (by simp) (by omega)
    have T := own_setCell (own_setCell (own_setCell T (p := ⟨g1, 0, none⟩) l1 (.int .i64 1)) (p := ⟨g2, 0, none⟩) l2 (.int .i64 1)) (p := ⟨g3, 0, none⟩) l3 (.int .i64 1)
    have E1 : (List.replicate (N + 1) 0).set 0 1 = stp t2 (N + 1) 1 := by rw [← stp_zero t2, ← stp_set]; rfl
    have E2 : (List.replicate (N + 1) 0).set 0 1 = stp t3 (N + 1) 1 := by rw [← stp_zero t3, ← stp_set]; rfl
    have E3 : (List.replicate (N + 1) 0).set 0 1 = stp prk (N + 1) 1 := by rw [← stp_zero prk, ← stp_set]; rfl
    rw [E1] at G1
    rw [E2] at G2
    rw [E3] at G3
    clear E1 E2 E3
    go_upto_region 3 with fail
    generalize ((_ : World).setCell _ _ |>.setCell _ _ |>.setCell _ _) = w3 at *
    clear a1 a2 a3 f1 f2 f3
    go_wp2_with fail
    go_loopw [6] (fun x wr => ∃ k : Nat, 1 ≤ k ∧ k ≤ N + 1 ∧ x = (.int .i64 ((k : Int))) ∧ Gr wr w.heap.size (.slice (some ⟨g1, 0, none⟩) (N + 1) (N + 1)) (stp t2 (N + 1) k) ∧ Gr wr w.heap.size (.slice (some ⟨g2, 0, none⟩) (N + 1) (N + 1)) (stp t3 (N + 1) k) ∧
      Gr wr w.heap.size (.slice (some ⟨g3, 0, none⟩) (N + 1) (N + 1)) (stp prk (N + 1) k) ∧ Below w.heap.size w wr) (fun x _ => N + 1 - (intOf x).toNat)
    case atStart => exact ⟨1, by omega, by omega, rfl, G1, G2, G3, T⟩
    case round =>
      obtain ⟨k, hk1, hk, rfl, G1, G2, G3, T⟩ := hrel
      by_cases hlt : k ≤ N
      · have W1 : IntKind.i64.wrap ((k : Int) - 1) = ((k - 1 : Nat) : Int) := (IntWalk.i64_in _ (by omega)).trans (by omega)
        obtain ⟨k1, hk1'⟩ : ∃ k1, k - 1 = k1 := ⟨_, rfl⟩
        rw [hk1'] at W1
        have hkk : k1 < k := by omega
        have HK : Hid (k = k1 + 1) := Lib.hid (by omega)
        clear hk1'
        obtain ⟨x, hx⟩ : ∃ x, t2 k = x := ⟨_, rfl⟩
        obtain ⟨y, hy⟩ : ∃ x, t3 k = x := ⟨_, rfl⟩
        obtain ⟨z, hz⟩ : ∃ x, prk k = x := ⟨_, rfl⟩
        obtain ⟨x1, hx1⟩ : ∃ x, t2 k1 = x := ⟨_, rfl⟩
        obtain ⟨y1, hy1⟩ : ∃ x, t3 k1 = x := ⟨_, rfl⟩
        have P := pr_step k (by omega)
        have b := t_bd k (by omega)
        have b1 := t_bd k1 (by omega)
        rw [hx, hy, hz] at P
        rw [hx, hy, hz] at b
        rw [hx1, hy1] at b1
        have F1 : Hid (stp t2 (N + 1) (k + 1) = (stp t2 (N + 1) k).set k x) := Lib.hid (by rw [← hx, stp_set])
        have F2 : Hid (stp t3 (N + 1) (k + 1) = (stp t3 (N + 1) k).set k y) := Lib.hid (by rw [← hy, stp_set])
        have F3 : Hid (stp prk (N + 1) (k + 1) = (stp prk (N + 1) k).set k z) := Lib.hid (by rw [← hz, stp_set])
        have c1 := G1.at' (k := k1) (by omega) ((stp_at (by omega) hkk).trans hx1)
        have c2 := G2.at' (k := k1) (by omega) ((stp_at (by omega) hkk).trans hy1)
        have d1 := G1.at' (k := k) (by omega) (stp_out (Nat.le_refl _))
        have d2 := G2.at' (k := k) (by omega) (stp_out (Nat.le_refl _))
        obtain ⟨c1, -⟩ := c1
        obtain ⟨c2, -⟩ := c2
        obtain ⟨d1, f1⟩ := d1
        obtain ⟨d2, f2⟩ := d2
        have GA := (G1.put' (k := k) (y := x1) (stp_len _ _ _) (by omega)).far' (p := ⟨g2, k, none⟩) n1 (.int .i64 y1)
        have GB := (G2.far' (p := ⟨g1, k, none⟩) n1' (.int .i64 x1)).put' (k := k) (y := y1) (stp_len _ _ _) (by omega)
        have GC := (G3.far' (p := ⟨g1, k, none⟩) n2' (.int .i64 x1)).far' (p := ⟨g2, k, none⟩) n3' (.int .i64 y1)
        have TA := own_setCell (own_setCell T (p := ⟨g1, k, none⟩) l1 (.int .i64 x1)) (p := ⟨g2, k, none⟩) l2 (.int .i64 y1)
        go_wp2
        go_region
        obtain ⟨ca1, fa1⟩ := GA.at' (k := k) (by omega) (set_here (by simp [stp_len]; omega))
        obtain ⟨ca2, fa2⟩ := GB.at' (k := k) (by omega) (set_here (by simp [stp_len]; omega))
        obtain ⟨ca3, fa3⟩ := GC.at' (k := k) (by omega) (stp_out (Nat.le_refl _))
        clear c1 c2 d1 d2 f1 f2
        have MP : IntKind.i64.wrap (x * y) = z := (IntWalk.i64_in _ (by omega)).trans P.symm
        have RB : Hid (k ≤ N + 1 ∧ 1 ≤ k) := Lib.hid (by omega)
        have MP' := (wrapE _).symm.trans MP
        clear P
        generalize (wr.setCell ⟨g1, k, none⟩ (.int .i64 x1)).setCell ⟨g2, k, none⟩ (.int .i64 y1) = wA at *
        clear G1 G2 G3 T
        have hkk1 := HK.out
        rcases (show k = 1 ∨ k = 2 ∨ 3 ≤ k by omega) with h | h | h
        · have H2 : k < 2 := by omega
          have H3 : k < 3 := by omega
          have s2 : x = x1 := by rw [← hx, ← hx1, show k = 1 by omega, show k1 = 0 by omega]; rfl
          have s3 : y = y1 := by rw [← hy, ← hy1, show k = 1 by omega, show k1 = 0 by omega]; rfl
          clear hx hy hz hx1 hy1
          have HS := Lib.hid (And.intro s2 s3)
          clear s2 s3 b h hkk1
          obtain rfl : x = x1 := HS.out.1
          obtain rfl : y = y1 := HS.out.2
          go_upto_region 11 with fail
          go_region
          have GX := (GA.far' (p := ⟨g3, k, none⟩) n2 (.int .i64 z))
          have GY := (GB.far' (p := ⟨g3, k, none⟩) n3 (.int .i64 z))
          have GZ := (GC.put' (k := k) (y := z) (stp_len _ _ _) (by omega))
          have TZ := own_setCell TA (p := ⟨g3, k, none⟩) l3 (.int .i64 z)
          go_wp2_with fail
          go_roundw
          case rel => exact ⟨k + 1, by omega, by omega, by go_num, by rw [F1.out]; first | exact GX | exact GX.drew, by rw [F2.out]; first | exact GY | exact GY.drew, by rw [F3.out]; first | exact GZ | exact GZ.drew, by repeat (first | with_reducible exact own_refl _ | with_reducible assumption | with_reducible apply own_alloc | with_reducible apply own_drewN | with_reducible apply own_drew | ((with_reducible refine own_setCell ?_ ?_ _); rotate_left; focus (first | (simp; done) | (simp; omega))) | (with_reducible (refine own_trans ?_ (by assumption))))⟩
          case measure => simp [intOf]; omega
        · have H2 : 2 ≤ k := by omega
          have H3 : k < 3 := by omega
          have W2 : IntKind.i64.wrap ((k : Int) - 2) = ((k - 2 : Nat) : Int) := (IntWalk.i64_in _ (by omega)).trans (by omega)
          obtain ⟨k2, hk2⟩ : ∃ k2, k - 2 = k2 := ⟨_, rfl⟩
          rw [hk2] at W2
          have b2 := t_bd k2 (by omega)
          have s2 := t2_step k (by omega) H2
          rw [hk2, show k - 1 = k1 by omega, hx, hx1, show (k : Int) - 1 = (k1 : Int) by omega] at s2
          have hk2k : k2 < k := by omega
          have hkk2 : k = k2 + 2 := by omega
          clear hk2
          have s3 : y = y1 := by rw [← hy, ← hy1, show k = 2 by omega, show k1 = 1 by omega]; rfl
          clear hx hy hz hx1 hy1
          obtain ⟨c22, -⟩ := GA.at' (k := k2) (by omega) ((set_at (by omega)).trans (stp_at (by omega) hk2k))
          generalize t2 k2 = x2 at *
          have hm2 : 0 ≤ (k1 : Int) * x2 := Int.mul_nonneg (by omega) (by omega)
          obtain ⟨p2, hp2⟩ : ∃ p, (k1 : Int) * x2 = p := ⟨_, rfl⟩
          rw [hp2] at s2 hm2
          have M2 : IntKind.i64.wrap ((k1 : Int) * x2) = p2 := (IntWalk.i64_in _ (by omega)).trans hp2
          have M2' := (wrapE _).symm.trans M2
          have S2 : IntKind.i64.wrap (x1 + p2) = x := (IntWalk.i64_in _ (by omega)).trans (by omega)
          have S2' := (wrapE _).symm.trans S2
          clear hp2
          have HS := Lib.hid (And.intro s2 s3)
          clear s2 s3 b h hkk1 hkk2
          clear b2
          obtain rfl : y = y1 := HS.out.2
          go_upto_region 8 with fail
          go_region
          have GA2 := (GA.put' (k := k) (y := x) (by simp [stp_len]) (by omega))
          have GB2 := (GB.far' (p := ⟨g1, k, none⟩) n1' (.int .i64 x))
          have GC2 := (GC.far' (p := ⟨g1, k, none⟩) n2' (.int .i64 x))
          have TB := own_setCell TA (p := ⟨g1, k, none⟩) l1 (.int .i64 x)
          rw [List.set_set] at GA2
          obtain ⟨cb1, fb1⟩ := GA2.at' (k := k) (by omega) (set_here (by simp [stp_len]; omega))
          obtain ⟨cb2, fb2⟩ := GB2.at' (k := k) (by omega) (set_here (by simp [stp_len]; omega))
          obtain ⟨cb3, fb3⟩ := GC2.at' (k := k) (by omega) (stp_out (Nat.le_refl _))
          generalize wA.setCell ⟨g1, k, none⟩ (.int .i64 x) = wB at *
          clear GA GB GC TA ca1 fa1 ca2 fa2 ca3 fa3 c22
          go_upto_region 11 with fail
          go_region
          have GX := (GA2.far' (p := ⟨g3, k, none⟩) n2 (.int .i64 z))
          have GY := (GB2.far' (p := ⟨g3, k, none⟩) n3 (.int .i64 z))
          have GZ := (GC2.put' (k := k) (y := z) (stp_len _ _ _) (by omega))
          have TZ := own_setCell TB (p := ⟨g3, k, none⟩) l3 (.int .i64 z)
          go_wp2_with fail
          go_roundw
          case rel => exact ⟨k + 1, by omega, by omega, by go_num, by rw [F1.out]; first | exact GX | exact GX.drew, by rw [F2.out]; first | exact GY | exact GY.drew, by rw [F3.out]; first | exact GZ | exact GZ.drew, by repeat (first | with_reducible exact own_refl _ | with_reducible assumption | with_reducible apply own_alloc | with_reducible apply own_drewN | with_reducible apply own_drew | ((with_reducible refine own_setCell ?_ ?_ _); rotate_left; focus (first | (simp; done) | (simp; omega))) | (with_reducible (refine own_trans ?_ (by assumption))))⟩
          case measure => simp [intOf]; omega
        · have H2 : 2 ≤ k := by omega
          have H3 : 3 ≤ k := by omega
          have W2 : IntKind.i64.wrap ((k : Int) - 2) = ((k - 2 : Nat) : Int) := (IntWalk.i64_in _ (by omega)).trans (by omega)
          obtain ⟨k2, hk2⟩ : ∃ k2, k - 2 = k2 := ⟨_, rfl⟩
          rw [hk2] at W2
          have b2 := t_bd k2 (by omega)
          have s2 := t2_step k (by omega) H2
          rw [hk2, show k - 1 = k1 by omega, hx, hx1, show (k : Int) - 1 = (k1 : Int) by omega] at s2
          have hk2k : k2 < k := by omega
          have hkk2 : k = k2 + 2 := by omega
          clear hk2
          have W3 : IntKind.i64.wrap ((k : Int) - 3) = ((k - 3 : Nat) : Int) := (IntWalk.i64_in _ (by omega)).trans (by omega)
          obtain ⟨k3, hk3⟩ : ∃ k3, k - 3 = k3 := ⟨_, rfl⟩
          rw [hk3] at W3
          have b3 := t_bd k3 (by omega)
          have s3 := t3_step k (by omega) H3
          rw [hk3, show k - 1 = k1 by omega, hy, hy1, show (k : Int) - 1 = (k1 : Int) by omega, show (k : Int) - 2 = (k2 : Int) by omega] at s3
          have hk3k : k3 < k := by omega
          clear hk3
          clear hx hy hz hx1 hy1
          obtain ⟨c22, -⟩ := GA.at' (k := k2) (by omega) ((set_at (by omega)).trans (stp_at (by omega) hk2k))
          generalize t2 k2 = x2 at *
          have hm2 : 0 ≤ (k1 : Int) * x2 := Int.mul_nonneg (by omega) (by omega)
          obtain ⟨p2, hp2⟩ : ∃ p, (k1 : Int) * x2 = p := ⟨_, rfl⟩
          rw [hp2] at s2 hm2
          have M2 : IntKind.i64.wrap ((k1 : Int) * x2) = p2 := (IntWalk.i64_in _ (by omega)).trans hp2
          have M2' := (wrapE _).symm.trans M2
          have S2 : IntKind.i64.wrap (x1 + p2) = x := (IntWalk.i64_in _ (by omega)).trans (by omega)
          have S2' := (wrapE _).symm.trans S2
          clear hp2
          have hr33 : ((stp t3 (N + 1) k).set k y1).getD k3 0 = t3 k3 := (set_at (by omega)).trans (stp_at (by omega) hk3k)
          obtain ⟨c33, -⟩ := GB.at' (k := k3) (by omega) hr33
          generalize t3 k3 = y3 at *
          have hq3 : k1 * k2 ≤ 12 * 12 := Nat.mul_le_mul (by omega) (by omega)
          rw [← Int.natCast_mul] at s3
          obtain ⟨q3, hq⟩ : ∃ q, k1 * k2 = q := ⟨_, rfl⟩
          rw [hq] at s3 hq3
          have hqb : -9223372036854775808 ≤ (q3 : Int) ∧ (q3 : Int) ≤ 9223372036854775807 := by omega
          have hm3 : 0 ≤ (q3 : Int) * y3 := Int.mul_nonneg (by omega) (by omega)
          obtain ⟨p3, hp3⟩ : ∃ p, (q3 : Int) * y3 = p := ⟨_, rfl⟩
          rw [hp3] at s3 hm3
          have M3 : IntKind.i64.wrap ((q3 : Int) * y3) = p3 := (IntWalk.i64_in _ (by omega)).trans hp3
          have M3' := (wrapE _).symm.trans M3
          have S3 : IntKind.i64.wrap (y1 + p3) = y := (IntWalk.i64_in _ (by omega)).trans (by omega)
          have S3' := (wrapE _).symm.trans S3
          have M30 : IntKind.i64.wrap ((k1 : Int) * (k2 : Int)) = (q3 : Int) := by rw [← Int.natCast_mul, hq]; exact IntWalk.i64_in _ hqb
          have M30' := (wrapE _).symm.trans M30
          clear hp3 hq
          have HS := Lib.hid (And.intro s2 s3)
          clear s2 s3 b h hkk1 hkk2
          clear b2
          clear b3
          have R33 : Hid (((stp t3 (N + 1) k).set k y1).getD k3 0 = y3) := Lib.hid hr33
          go_upto_region 8 with fail
          go_region
          have GA2 := (GA.put' (k := k) (y := x) (by simp [stp_len]) (by omega))
          have GB2 := (GB.far' (p := ⟨g1, k, none⟩) n1' (.int .i64 x))
          have GC2 := (GC.far' (p := ⟨g1, k, none⟩) n2' (.int .i64 x))
          have TB := own_setCell TA (p := ⟨g1, k, none⟩) l1 (.int .i64 x)
          rw [List.set_set] at GA2
          obtain ⟨cb1, fb1⟩ := GA2.at' (k := k) (by omega) (set_here (by simp [stp_len]; omega))
          obtain ⟨cb2, fb2⟩ := GB2.at' (k := k) (by omega) (set_here (by simp [stp_len]; omega))
          obtain ⟨cb3, fb3⟩ := GC2.at' (k := k) (by omega) (stp_out (Nat.le_refl _))
          obtain ⟨cb33, -⟩ := GB2.at' (k := k3) (by omega) R33.out
          generalize wA.setCell ⟨g1, k, none⟩ (.int .i64 x) = wB at *
          clear GA GB GC TA ca1 fa1 ca2 fa2 ca3 fa3 c22 c33
          go_upto_region 10 with fail
          go_region
          have GA3 := (GA2.far' (p := ⟨g2, k, none⟩) n1 (.int .i64 y))
          have GB3 := (GB2.put' (k := k) (y := y) (by simp [stp_len]) (by omega))
          have GC3 := (GC2.far' (p := ⟨g2, k, none⟩) n3' (.int .i64 y))
          have TC := own_setCell TB (p := ⟨g2, k, none⟩) l2 (.int .i64 y)
          rw [List.set_set] at GB3
          obtain ⟨cc1, fc1⟩ := GA3.at' (k := k) (by omega) (set_here (by simp [stp_len]; omega))
          obtain ⟨cc2, fc2⟩ := GB3.at' (k := k) (by omega) (set_here (by simp [stp_len]; omega))
          obtain ⟨cc3, fc3⟩ := GC3.at' (k := k) (by omega) (stp_out (Nat.le_refl _))
          generalize wB.setCell ⟨g2, k, none⟩ (.int .i64 y) = wC at *
          clear GA2 GB2 GC2 TB cb1 fb1 cb2 fb2 cb3 fb3 cb33
          go_upto_region 11 with fail
          go_region
          have GX := (GA3.far' (p := ⟨g3, k, none⟩) n2 (.int .i64 z))
          have GY := (GB3.far' (p := ⟨g3, k, none⟩) n3 (.int .i64 z))
          have GZ := (GC3.put' (k := k) (y := z) (stp_len _ _ _) (by omega))
          have TZ := own_setCell TC (p := ⟨g3, k, none⟩) l3 (.int .i64 z)
          go_wp2_with fail
          go_roundw
          case rel => exact ⟨k + 1, by omega, by omega, by go_num, by rw [F1.out]; first | exact GX | exact GX.drew, by rw [F2.out]; first | exact GY | exact GY.drew, by rw [F3.out]; first | exact GZ | exact GZ.drew, by repeat (first | with_reducible exact own_refl _ | with_reducible assumption | with_reducible apply own_alloc | with_reducible apply own_drewN | with_reducible apply own_drew | ((with_reducible refine own_setCell ?_ ?_ _); rotate_left; focus (first | (simp; done) | (simp; omega))) | (with_reducible (refine own_trans ?_ (by assumption))))⟩
          case measure => simp [intOf]; omega
      · obtain rfl : k = N + 1 := by omega
        clear hlt
        go_wp2
        go_ret
        exact ⟨_, rfl, G3, T⟩
end Go.Proofs.Ytdcomnnpnhinfaa
