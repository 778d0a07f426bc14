/- spec.MatrixOfChain: contract. -/
import Derived.Test.YteknmpnkjoopfaaDoorMocM
namespace Go.Proofs.YteknmpnkjoopfaaDoor
open Go.ChangeShapes Go.WideShapes Go.ChangeAt Go.RowKit

set_option maxHeartbeats 1000000 in
theorem specMoc_sign (s : Int) (hs : ¬ (s = 1 ∨ s = -1)) (a : Option Addr) (n c : Nat) (w : World) :
    Calls Tryd.prog 23 #[(.int .i64 s), .slice a n c] w fun e w' => e = .returned (.tuple #[(.agg #[.int .i64 0, .int .i64 0, .int .i64 0, .int .i64 0]), (.int .i64 2)]) ∧ Below w.heap.size w w' := by
  have e1 : (s == 1) = false := by simp; omega
  have e2 : (s == -1) = false := by simp; omega
  have e3 : (s != 1) = true := by simp; omega
  have e4 : (s != -1) = true := by simp; omega
  clear hs
  go_enter Tryd.func23, Tryd.ntmps23
  go_wp2
  exact bodyPost_ret (v := .tuple #[(.agg #[.int .i64 0, .int .i64 0, .int .i64 0, .int .i64 0]), (.int .i64 2)]) (by simp [results, Tryd.results23, go_sem]) rfl ⟨rfl, by repeat (first | with_reducible exact own_refl _ | with_reducible assumption | with_reducible apply own_alloc | with_reducible apply own_drewN | with_reducible apply own_drew | ((with_reducible refine own_setCell ?_ ?_ _); rotate_left; focus (first | (simp; done) | (simp; omega))) | (with_reducible (refine own_trans ?_ (by assumption))))⟩
set_option maxHeartbeats 1000000 in
theorem specMoc_len (s : Int) (hs : s = 1 ∨ s = -1) (a : Option Addr) (n c : Nat) (hn : n < 1 ∨ 100 < n) (hn2 : n ≤ 1048576) (w : World) :
    Calls Tryd.prog 23 #[(.int .i64 s), .slice a n c] w fun e w' => e = .returned (.tuple #[(.agg #[.int .i64 0, .int .i64 0, .int .i64 0, .int .i64 0]), (.int .i64 2)]) ∧ Below w.heap.size w w' := by
  rcases hn with hn | hn
  · obtain rfl : n = 0 := by omega
    rcases hs with rfl | rfl
    all_goals
      go_enter Tryd.func23, Tryd.ntmps23
      go_wp2
      exact bodyPost_ret (v := .tuple #[(.agg #[.int .i64 0, .int .i64 0, .int .i64 0, .int .i64 0]), (.int .i64 2)]) (by simp [results, Tryd.results23, go_sem]) rfl ⟨rfl, by repeat (first | with_reducible exact own_refl _ | with_reducible assumption | with_reducible apply own_alloc | with_reducible apply own_drewN | with_reducible apply own_drew | ((with_reducible refine own_setCell ?_ ?_ _); rotate_left; focus (first | (simp; done) | (simp; omega))) | (with_reducible (refine own_trans ?_ (by assumption))))⟩
  · have h1 : ¬ ((n : Int) < 1) := by omega
    have h2 : (100 : Int) < n := by omega
    rcases hs with rfl | rfl
    all_goals
      go_enter Tryd.func23, Tryd.ntmps23
      go_wp2
      exact bodyPost_ret (v := .tuple #[(.agg #[.int .i64 0, .int .i64 0, .int .i64 0, .int .i64 0]), (.int .i64 2)]) (by simp [results, Tryd.results23, go_sem]) rfl ⟨rfl, by repeat (first | with_reducible exact own_refl _ | with_reducible assumption | with_reducible apply own_alloc | with_reducible apply own_drewN | with_reducible apply own_drew | ((with_reducible refine own_setCell ?_ ?_ _); rotate_left; focus (first | (simp; done) | (simp; omega))) | (with_reducible (refine own_trans ?_ (by assumption))))⟩
theorem inR_sym (x : Int) : inR x (-1000000000) 1000000000 = inW x 1000000000 := by
  unfold inR inW
  rfl
set_option maxRecDepth 100000 in
set_option maxHeartbeats 2000000 in
theorem specMoc_ent (s : Int) (hs : s = 1 ∨ s = -1) (b off cap : Nat) (xs : List Int) (hn : 1 ≤ xs.length) (hn2 : xs.length ≤ 100) (hent : allW xs 1000000000 = false) (w : World)
    (hb : b < w.heap.size) (hc : ∀ k, k < xs.length → w.cell? ⟨b, off + k, none⟩ = some (.int .i64 (xs.getD k 0))) :
    Calls Tryd.prog 23 #[(.int .i64 s), .slice (some ⟨b, off, none⟩) xs.length cap] w fun e w' => e = .returned (.tuple #[(.agg #[.int .i64 0, .int .i64 0, .int .i64 0, .int .i64 0]), (.int .i64 2)]) ∧ Below w.heap.size w w' := by
  have h1 : ¬ ((xs.length : Int) < 1) := by omega
  have h2 : ¬ ((100 : Int) < xs.length) := by omega
  have HC := Lib.hid hc
  have HE := Lib.hid hent
  have hne : ¬ (b = w.heap.size) := by omega
  clear hc hent
  rcases hs with rfl | rfl
  all_goals
    go_enter Tryd.func23, Tryd.ntmps23
    go_wp2
    go_loop [6] (fun i => ∃ k : Nat, k ≤ xs.length ∧ i = (.int .i64 k) ∧ Hid (allW (xs.take k) 1000000000 = true)) (fun i => xs.length - (intOf i).toNat)
    case atStart => exact ⟨0, Nat.zero_le _, rfl, Lib.hid rfl⟩
    case round =>
      obtain ⟨k, hk, rfl, HO⟩ := hrel
      by_cases hlt : k < xs.length
      · obtain ⟨x, hx⟩ : ∃ x, xs.getD k 0 = x := ⟨_, rfl⟩
        have c1 : w.cell? ⟨b, off + k, none⟩ = some (.int .i64 x) := by rw [← hx]; exact HC.out k hlt
        rcases hi : inW x 1000000000 with _ | _
        · have HN := Lib.hid (show inR x (-1000000000) 1000000000 = false by rw [inR_sym]; exact hi)
          clear hx hi
          go_wp2_with fail
          refine (l01In_is false _ _ _ HN.out _).mono ?_
          rintro e w1 ⟨rfl, rfl⟩
          go_wp2
          exact bodyPost_ret (v := .tuple #[(.agg #[.int .i64 0, .int .i64 0, .int .i64 0, .int .i64 0]), (.int .i64 2)]) (by simp [results, Tryd.results23, go_sem]) rfl ⟨rfl, by repeat (first | with_reducible exact own_refl _ | with_reducible assumption | with_reducible apply own_alloc | with_reducible apply own_drewN | with_reducible apply own_drew | ((with_reducible refine own_setCell ?_ ?_ _); rotate_left; focus (first | (simp; done) | (simp; omega))) | (with_reducible (refine own_trans ?_ (by assumption))))⟩
        · have HN := Lib.hid (show inR x (-1000000000) 1000000000 = true by rw [inR_sym]; exact hi)
          have HY := Lib.hid (allW_take xs 1000000000 k hlt HO.out (by rw [hx]; exact hi))
          clear hx hi
          go_wp2_with fail
          refine (l01In_is true _ _ _ HN.out _).mono ?_
          rintro e w1 ⟨rfl, rfl⟩
          go_wp2
          go_round
          case rel => exact ⟨k + 1, by omega, by go_num, HY⟩
          case measure => simp [intOf]; omega
      · exfalso
        have h3 := HO.out
        rw [List.take_of_length_le (by omega), HE.out] at h3
        cases h3
/-- where the product stands ahead of the k-th round -/
def hdC (k : Nat) : Nat := if k = 0 then 1 else 2 * k
theorem Sofar.atT {s : Int} {xs : List Int} {k n : Nat} {p q : Mat} {x : Int} {r : Bool} (h : Sofar (chPre s xs n) (2 * k + 1) p true) (hk : k < n) (hx : xs.getD k 0 = x) (ht : TM p ⟨1, x, 0, 1⟩ q r) : Sofar (chPre s xs n) (hdC (k + 1)) q r := by
  have e : hdC (k + 1) = 2 * k + 1 + 1 := by unfold hdC; rw [if_neg (by omega)]; omega
  rw [e]
  refine Sofar.step h (by rw [chPre_len]; omega) ?_ ht
  rw [chPre_get]
  unfold chF
  rw [if_neg (by omega), if_neg (by omega), show (2 * k + 1) / 2 = k by omega, hx]
theorem Sofar.atS {s : Int} {xs : List Int} {k n : Nat} {p q : Mat} {r : Bool} (h : Sofar (chPre s xs n) (hdC k) p true) (hk : k < n) (h0 : 0 < k) (ht : TM p ⟨0, -1, 1, 0⟩ q r) : Sofar (chPre s xs n) (2 * k + 1) q r := by
  have e : hdC k = 2 * k := by unfold hdC; rw [if_neg (by omega)]
  rw [e] at h
  refine Sofar.step h (by rw [chPre_len]; omega) ?_ ht
  rw [chPre_get]
  unfold chF
  rw [if_neg (by omega), if_pos (by omega)]
theorem Sofar.fell {ms : List Mat} {k j : Nat} {p q : Mat} (h : Sofar ms k p false) : Sofar ms j q false := by
  rcases h with ⟨h, _⟩ | ⟨_, h⟩
  · cases h
  · exact .inr ⟨rfl, h⟩
set_option maxRecDepth 100000 in
set_option maxHeartbeats 8000000 in
theorem specMoc_some (s : Int) (hs : s = 1 ∨ s = -1) (b off cap : Nat) (xs : List Int) (hn : 1 ≤ xs.length) (hn2 : xs.length ≤ 100) (hent : allW xs 1000000000 = true) (r : Mat) (kd : Int) (hPA : PA (chPre s xs xs.length) r kd) (w : World)
    (hb : b < w.heap.size) (hc : ∀ k, k < xs.length → w.cell? ⟨b, off + k, none⟩ = some (.int .i64 (xs.getD k 0))) :
    Calls Tryd.prog 23 #[(.int .i64 s), .slice (some ⟨b, off, none⟩) xs.length cap] w (RetM r kd w) := by
  have h1 : ¬ ((xs.length : Int) < 1) := by omega
  have h2 : ¬ ((100 : Int) < xs.length) := by omega
  have HC := Lib.hid hc
  have HE := Lib.hid hent
  have HP := Lib.hid hPA
  have HALL := Lib.hid (chPre_is s hs xs hent xs.length)
  have hne : ¬ (b = w.heap.size) := by omega
  have HST : Hid (Sofar (chPre s xs xs.length) 1 ⟨s, 0, 0, s⟩ true) := Lib.hid (by
    have h0 : (chPre s xs xs.length)[0]'(by rw [chPre_len]; omega) = ⟨s, 0, 0, s⟩ := by rw [chPre_get]; rfl
    refine Sofar.step (k := 0) (p := Mat.one) (.inl ⟨rfl, by decide, rfl⟩) (by rw [chPre_len]; omega) h0 (.inl ⟨?_, ?_, rfl⟩)
    · rcases hs with rfl | rfl <;> decide
    · simp [Mat.mul, Mat.one])
  clear hc hent hPA
  rcases hs with rfl | rfl
  all_goals
    go_enter Tryd.func23, Tryd.ntmps23
    go_wp2
    go_loop [6] (fun i => ∃ k : Nat, k ≤ xs.length ∧ i = (.int .i64 k)) (fun i => xs.length - (intOf i).toNat)
    case atStart => exact ⟨0, Nat.zero_le _, rfl⟩
    case round =>
      obtain ⟨k, hk, rfl⟩ := hrel
      by_cases hlt : k < xs.length
      · obtain ⟨x, hx⟩ : ∃ x, xs.getD k 0 = x := ⟨_, rfl⟩
        have c1 : w.cell? ⟨b, off + k, none⟩ = some (.int .i64 x) := by rw [← hx]; exact HC.out k hlt
        have HN := Lib.hid (show inR x (-1000000000) 1000000000 = true by rw [inR_sym, ← hx]; exact ent_iff.2 (allW_ent HE.out k))
        clear hx
        go_wp2_with fail
        refine (l01In_is true _ _ _ HN.out _).mono ?_
        rintro e w1 ⟨rfl, rfl⟩
        go_wp2
        go_round
        case rel => exact ⟨k + 1, by omega, by go_num⟩
        case measure => simp [intOf]; omega
      · go_wp2
        go_loopw [8, 9] (fun f i wr => ∃ (k : Nat) (p : Mat) (rr : Bool), k ≤ xs.length ∧ i = (.int .i64 k) ∧ f = .bool rr ∧ Hid (Sofar (chPre _ xs xs.length) (hdC k) p rr) ∧ Below w.heap.size w wr ∧ Box wr w.heap.size [.int .i64 0, .int .i64 0, .int .i64 0, .int .i64 0] ∧ Box wr (w.heap.size + 1) p.cells) (fun _ i _ => xs.length - (intOf i).toNat)
        case atStart => exact ⟨0, _, true, Nat.zero_le _, rfl, rfl, HST, by repeat (first | with_reducible exact own_refl _ | with_reducible assumption | with_reducible apply own_alloc | with_reducible apply own_drewN | with_reducible apply own_drew | ((with_reducible refine own_setCell ?_ ?_ _); rotate_left; focus (first | (simp; done) | (simp; omega))) | (with_reducible (refine own_trans ?_ (by assumption)))), Box.alloc (Box.new _ _ _) _, Box.newAt (by simp) _ _⟩
        case round =>
          obtain ⟨k, p, rr, hk, rfl, rfl, HSo, T, hR, hP⟩ := hrel
          obtain ⟨_, _, _, _, _, _, _, _, _⟩ := hR.four
          obtain ⟨_, _, _, _, _, _, _, _, _⟩ := hP.four
          by_cases hlt2 : k < xs.length
          · cases rr
            · have hE := HSo.out.end_no HP.out HALL.out
              have HE2 := Lib.hid hE
              clear hE
              go_wp2
              obtain ⟨d0, d1, d2, d3⟩ := hR.reads4' (.int .i64 0) (.int .i64 0) (.int .i64 0) (.int .i64 0)
              refine bodyPost_ret (v := .tuple #[(.agg #[.int .i64 0, .int .i64 0, .int .i64 0, .int .i64 0]), (.int .i64 3)]) (by simp [results, Tryd.results23, go_sem, d0, d1, d2, d3]) rfl ⟨?_, by repeat (first | with_reducible exact own_refl _ | with_reducible assumption | with_reducible apply own_alloc | with_reducible apply own_drewN | with_reducible apply own_drew | ((with_reducible refine own_setCell ?_ ?_ _); rotate_left; focus (first | (simp; done) | (simp; omega))) | (with_reducible (refine own_trans ?_ (by assumption))))⟩
              rw [HE2.out.1, HE2.out.2]
              rfl
            · obtain ⟨x, hx⟩ : ∃ x, xs.getD k 0 = x := ⟨_, rfl⟩
              have c1 : wr.cell? ⟨b, off + k, none⟩ = some (.int .i64 x) := by rw [T.cell (p := ⟨b, off + k, none⟩) hb, ← hx]; exact HC.out k hlt2
              have HX := Lib.hid hx
              have HEX := Lib.hid (show Ent x by rw [← hx]; exact allW_ent HE.out k)
              have HM1 := Lib.hid (show Ent 0 ∧ Ent 1 ∧ Ent (-1) by unfold Ent; omega)
              clear hx
              have HOK0 := Lib.hid HSo.out.ok
              rcases Nat.eq_zero_or_pos k with h0 | h0
              · subst h0
                obtain ⟨q, r2, HT⟩ := TM.any p ⟨1, x, 0, 1⟩
                have HNX := Lib.hid (Sofar.atT (k := 0) HSo.out hlt2 HX.out HT)
                have HTM := Lib.hid HT
                have HOKP := HOK0
                clear HT
                simp only [Nat.add_zero] at c1
                go_wp2_with fail
                go_region_with
                  (first | (go_at_call 53; refine (times_lit p q 1 x 0 1 r2 HOKP.out HM1.out.2.1 HEX.out HM1.out.1 HM1.out.2.1 HTM.out _).mono ?_; rintro e w4 ⟨rfl, hb4⟩; have P4 := Box.below (by first | exact hP | exact Box.drew hP) hb4; have R4 := Box.below (by first | exact hR | exact Box.drew hR) hb4; have T4 := (by first | exact own_trans T hb4 | exact own_trans (own_drew T) hb4 : Below w.heap.size w w4); obtain ⟨_, _, _, _, _, _, _, _, _⟩ := P4.four))
                all_goals
                  go_wp2
                  go_roundw
                  case rel => exact ⟨_ + 1, q, r2, by omega, by go_num, rfl, HNX, by repeat (first | with_reducible exact own_refl _ | with_reducible assumption | with_reducible apply own_alloc | with_reducible apply own_drewN | with_reducible apply own_drew | ((with_reducible refine own_setCell ?_ ?_ _); rotate_left; focus (first | (simp; done) | (simp; omega))) | (with_reducible (refine own_trans ?_ (by assumption)))), (((R4.far (by simp) _).far (by simp) _).far (by simp) _).far (by simp) _, P4.put4 _ _ _ _⟩
                  case measure => simp [intOf]; omega
              · have hk1 : (0 : Int) < (k : Int) := by omega
                obtain ⟨q0, r0, HT0⟩ := TM.any p ⟨0, -1, 1, 0⟩
                have HN0 := Lib.hid (Sofar.atS HSo.out hlt2 h0 HT0)
                have HTM0 := Lib.hid HT0
                clear HT0
                go_wp2_with fail
                refine (times_lit p q0 0 (-1) 1 0 r0 HOK0.out HM1.out.1 HM1.out.2.2 HM1.out.2.1 HM1.out.1 HTM0.out _).mono ?_
                rintro e w2 ⟨rfl, hb2⟩
                have T2 := own_trans T hb2
                have R2 := hR.below hb2
                have P2 := hP.below hb2
                obtain ⟨_, _, _, _, _, _, _, _, _⟩ := P2.four
                cases r0
                · have HF := Lib.hid (Sofar.fell (j := hdC (k + 1)) (q := q0) HN0.out)
                  go_wp2
                  go_roundw
                  case rel => exact ⟨k + 1, q0, false, by omega, by go_num, rfl, HF, by repeat (first | with_reducible exact own_refl _ | with_reducible assumption | with_reducible apply own_alloc | with_reducible apply own_drewN | with_reducible apply own_drew | ((with_reducible refine own_setCell ?_ ?_ _); rotate_left; focus (first | (simp; done) | (simp; omega))) | (with_reducible (refine own_trans ?_ (by assumption)))), (((R2.far (by simp) _).far (by simp) _).far (by simp) _).far (by simp) _, P2.put4 _ _ _ _⟩
                  case measure => simp [intOf]; omega
                · obtain ⟨q, r2, HT⟩ := TM.any q0 ⟨1, x, 0, 1⟩
                  have HNX := Lib.hid (Sofar.atT HN0.out hlt2 HX.out HT)
                  have HTM := Lib.hid HT
                  have HOKP := Lib.hid HN0.out.ok
                  clear HT
                  go_upto_region 15 with fail
                  have P3 := P2.put4 (.int .i64 q0.a) (.int .i64 q0.b) (.int .i64 q0.c) (.int .i64 q0.d)
                  have R3 := (((R2.far (p := ⟨w.heap.size + 1, 0, none⟩) (by simp) (.int .i64 q0.a)).far (p := ⟨w.heap.size + 1, 1, none⟩) (by simp) (.int .i64 q0.b)).far (p := ⟨w.heap.size + 1, 2, none⟩) (by simp) (.int .i64 q0.c)).far (p := ⟨w.heap.size + 1, 3, none⟩) (by simp) (.int .i64 q0.d)
                  have T3 : Below w.heap.size w ((((w2.setCell ⟨w.heap.size + 1, 0, none⟩ (.int .i64 q0.a)).setCell ⟨w.heap.size + 1, 1, none⟩ (.int .i64 q0.b)).setCell ⟨w.heap.size + 1, 2, none⟩ (.int .i64 q0.c)).setCell ⟨w.heap.size + 1, 3, none⟩ (.int .i64 q0.d)) := by repeat (first | with_reducible exact own_refl _ | with_reducible assumption | with_reducible apply own_alloc | with_reducible apply own_drewN | with_reducible apply own_drew | ((with_reducible refine own_setCell ?_ ?_ _); rotate_left; focus (first | (simp; done) | (simp; omega))) | (with_reducible (refine own_trans ?_ (by assumption))))
                  clear T2 R2 P2 hb2 T hR hP
                  generalize ((((w2.setCell ⟨w.heap.size + 1, 0, none⟩ (.int .i64 q0.a)).setCell ⟨w.heap.size + 1, 1, none⟩ (.int .i64 q0.b)).setCell ⟨w.heap.size + 1, 2, none⟩ (.int .i64 q0.c)).setCell ⟨w.heap.size + 1, 3, none⟩ (.int .i64 q0.d)) = w3 at P3 R3 T3 ⊢
                  have c3 : w3.cell? ⟨b, off + k, none⟩ = some (.int .i64 x) := by rw [T3.cell (p := ⟨b, off + k, none⟩) hb, ← HX.out]; exact HC.out k hlt2
                  obtain ⟨_, _, _, _, _, _, _, _, _⟩ := P3.four
                  go_wp2_with fail
                  go_region_with
                    (first | (go_at_call 53; refine (times_lit q0 q 1 x 0 1 r2 HOKP.out HM1.out.2.1 HEX.out HM1.out.1 HM1.out.2.1 HTM.out _).mono ?_; rintro e w4 ⟨rfl, hb4⟩; have P4 := Box.below (by first | exact P3 | exact Box.drew P3) hb4; have R4 := Box.below (by first | exact R3 | exact Box.drew R3) hb4; have T4 := (by first | exact own_trans T3 hb4 | exact own_trans (own_drew T3) hb4 : Below w.heap.size w w4); obtain ⟨_, _, _, _, _, _, _, _, _⟩ := P4.four))
                  all_goals
                    go_wp2
                    go_roundw
                    case rel => exact ⟨_ + 1, q, r2, by omega, by go_num, rfl, HNX, by repeat (first | with_reducible exact own_refl _ | with_reducible assumption | with_reducible apply own_alloc | with_reducible apply own_drewN | with_reducible apply own_drew | ((with_reducible refine own_setCell ?_ ?_ _); rotate_left; focus (first | (simp; done) | (simp; omega))) | (with_reducible (refine own_trans ?_ (by assumption)))), (((R4.far (by simp) _).far (by simp) _).far (by simp) _).far (by simp) _, P4.put4 _ _ _ _⟩
                    case measure => simp [intOf]; omega
          · have hke : k = xs.length := by omega
            cases rr
            · have hE := HSo.out.end_no HP.out HALL.out
              have HE2 := Lib.hid hE
              clear hE hke
              go_wp2
              obtain ⟨d0, d1, d2, d3⟩ := hR.reads4' (.int .i64 0) (.int .i64 0) (.int .i64 0) (.int .i64 0)
              refine bodyPost_ret (v := .tuple #[(.agg #[.int .i64 0, .int .i64 0, .int .i64 0, .int .i64 0]), (.int .i64 3)]) (by simp [results, Tryd.results23, go_sem, d0, d1, d2, d3]) rfl ⟨?_, by repeat (first | with_reducible exact own_refl _ | with_reducible assumption | with_reducible apply own_alloc | with_reducible apply own_drewN | with_reducible apply own_drew | ((with_reducible refine own_setCell ?_ ?_ _); rotate_left; focus (first | (simp; done) | (simp; omega))) | (with_reducible (refine own_trans ?_ (by assumption))))⟩
              rw [HE2.out.1, HE2.out.2]
              rfl
            · have hE : r = p ∧ kd = 0 := by
                have h := HSo.out
                rw [hke, show hdC xs.length = 2 * xs.length by unfold hdC; rw [if_neg (by omega)], ← chPre_len _ xs xs.length] at h
                exact h.end_yes HP.out HALL.out
              have HE2 := Lib.hid hE
              clear hE hke
              go_wp2
              obtain ⟨d0, d1, d2, d3⟩ := hR.reads4' (.int .i64 p.a) (.int .i64 p.b) (.int .i64 p.c) (.int .i64 p.d)
              refine bodyPost_ret (v := .tuple #[(.agg #[.int .i64 p.a, .int .i64 p.b, .int .i64 p.c, .int .i64 p.d]), (.int .i64 0)]) (by simp [results, Tryd.results23, go_sem, d0, d1, d2, d3]) rfl ⟨?_, by repeat (first | with_reducible exact own_refl _ | with_reducible assumption | with_reducible apply own_alloc | with_reducible apply own_drewN | with_reducible apply own_drew | ((with_reducible refine own_setCell ?_ ?_ _); rotate_left; focus (first | (simp; done) | (simp; omega))) | (with_reducible (refine own_trans ?_ (by assumption))))⟩
              rw [HE2.out.1, HE2.out.2]
end Go.Proofs.YteknmpnkjoopfaaDoor
