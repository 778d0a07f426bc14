/- CountKept: contracts of both sides. -/
import Derived.Test.YtfchfakkbdfajaaDoorLed
import Derived.Test.YtfchfakkbdfajaaDoorMS
import Derived.Test.YtfchfakkbdfajaaDoorCo
import Derived.Test.YtfchfakkbdfajaaDoorNamed
import Derived.OwnWalk
namespace Go.Proofs.YtfchfakkbdfajaaDoor
open Go.ChangeShapes Go.WideShapes Go.ChangeAt Go.RowKit
theorem prs_get {l : List (Int × Int)} {k : Nat} (h : k < l.length) : (prs l).getD k [] = [(l.getD k (0, 0)).1, (l.getD k (0, 0)).2] := by
  simp [prs, List.getD, List.getElem?_map, List.getElem?_eq_getElem h]
theorem rowL_mem {n c : Int} : ∀ {k : Nat} {p : Int × Int}, p ∈ rowL n c k → p.1 = c ∧ 0 ≤ p.2 ∧ p.2 < k ∧ okP n p.1 p.2 = true
  | 0, p, h => by simp [rowL] at h
  | k + 1, p, h => by
    rw [rowL] at h
    split at h
    · rename_i ho
      simp only [List.mem_append, List.mem_singleton] at h
      rcases h with h | rfl
      · obtain ⟨a, b, c, d⟩ := rowL_mem h
        exact ⟨a, b, by omega, d⟩
      · exact ⟨rfl, by simp, by simp; omega, ho⟩
    · obtain ⟨a, b, c, d⟩ := rowL_mem h
      exact ⟨a, b, by omega, d⟩
theorem lnL_mem {n : Int} : ∀ {k : Nat} {p : Int × Int}, p ∈ lnL n k → 0 ≤ p.1 ∧ p.1 < k ∧ 0 ≤ p.2 ∧ p.2 < n.toNat ∧ okP n p.1 p.2 = true
  | 0, p, h => by simp [lnL] at h
  | k + 1, p, h => by
    rw [lnL, List.mem_append] at h
    rcases h with h | h
    · obtain ⟨a, b, c, d, e⟩ := lnL_mem h
      exact ⟨a, by omega, c, d, e⟩
    · obtain ⟨a, b, c, d⟩ := rowL_mem h
      exact ⟨by omega, by omega, b, by omega, d⟩
theorem ln_at {n : Int} (h1 : 1 ≤ n) {k : Nat} (h : k < (ln n).length) : 0 ≤ ((ln n).getD k (0, 0)).1 ∧ ((ln n).getD k (0, 0)).1 < n ∧ 0 ≤ ((ln n).getD k (0, 0)).2 ∧ ((ln n).getD k (0, 0)).2 < n ∧ okP n ((ln n).getD k (0, 0)).1 ((ln n).getD k (0, 0)).2 = true := by
  have e : (ln n).getD k (0, 0) = (ln n)[k] := by simp [List.getD, List.getElem?_eq_getElem h]
  rw [e]
  obtain ⟨a, b, c, d, f⟩ := lnL_mem (n := n) (k := n.toNat) (p := (ln n)[k]) (List.getElem_mem h)
  exact ⟨a, by omega, c, by omega, f⟩



/-- how many numbers of a list stand at their own place -/
def cntF (xs : List Int) : Nat → Nat
  | 0 => 0
  | k + 1 => if xs.getD k 0 = (k : Int) then cntF xs k + 1 else cntF xs k
theorem cntF_yes {xs : List Int} {k : Nat} {s : Int} (h : xs.getD k 0 = (k : Int)) (hs : (cntF xs k : Int) = s) : (cntF xs (k + 1) : Int) = s + 1 := by
  rw [cntF, if_pos h, ← hs]
  simp
theorem cntF_no {xs : List Int} {k : Nat} {s : Int} (h : ¬ xs.getD k 0 = (k : Int)) (hs : (cntF xs k : Int) = s) : (cntF xs (k + 1) : Int) = s := by
  rw [cntF, if_neg h, hs]
set_option maxHeartbeats 2000000 in
theorem countFixed_any (xs : List Int) (N : Nat) (hN : xs.length = N) (hn : N ≤ 3600) (v : Value) (L : Nat) (w : World) (hG : Gr w L v xs) :
    Calls Tryd.prog 76 #[v] w fun e w' => e = .returned (.int .i64 ((cntF xs N : Int))) ∧ w = w' := by
  obtain ⟨ad, cap, hv⟩ := hG.shape
  subst hv
  rw [hN] at hG ⊢
  have HG := Lib.hid hG
  clear hG hN
  go_enter Tryd.func76, Tryd.ntmps76
  go_wp2
  go_loop [3, 8] (fun c i => ∃ (k : Nat) (s : Int), k ≤ N ∧ i = (.int .i64 ((k : Int))) ∧ c = (.int .i64 s) ∧ 0 ≤ s ∧ s ≤ k ∧ Hid ((cntF xs k : Int) = s)) (fun _ i => N - (intOf i).toNat)
  case atStart => exact ⟨0, 0, Nat.zero_le _, rfl, rfl, by omega, by omega, Lib.hid (by simp [cntF])⟩
  case round =>
    obtain ⟨k, s, hk, rfl, rfl, h0, h1, HS⟩ := hrel
    by_cases hlt : k < N
    · obtain ⟨x, hx⟩ : ∃ x, xs.getD k 0 = x := ⟨_, rfl⟩
      obtain ⟨g, rfl, _, _, hc⟩ := HG.out.cellsZ (by omega)
      have ck := (hc k hlt).1
      rw [hx] at ck
      clear hc
      by_cases he : x = (k : Int)
      · have HT : Hid ((cntF xs (k + 1) : Int) = s + 1) := Lib.hid (cntF_yes (hx.trans he) HS.out)
        have e1 : ((k : Int) == x) = true := by simp [he]
        clear hx he
        go_wp2
        go_round
        case rel => exact ⟨k + 1, s + 1, by omega, by go_num, by go_num, by omega, by omega, HT⟩
        case measure => simp [intOf]; omega
      · have HT : Hid ((cntF xs (k + 1) : Int) = s) := Lib.hid (cntF_no (by rw [hx]; exact he) HS.out)
        have e1 : ((k : Int) == x) = false := by simp; omega
        clear hx he
        go_wp2
        go_round
        case rel => exact ⟨k + 1, s, by omega, by go_num, rfl, by omega, by omega, HT⟩
        case measure => simp [intOf]; omega
    · obtain rfl : k = N := by omega
      go_wp2
      go_ret
      exact ⟨by rw [HS.out]; rfl, rfl⟩
theorem gcd_S (c d : Int) : Int.gcd d (-c) = Int.gcd c d := by rw [Int.gcd_neg, Int.gcd_comm]
theorem gcd_U (c d : Int) : Int.gcd (c + d) (-c) = Int.gcd c d := by
  rw [Int.gcd_neg, Int.gcd_comm]
  simp
theorem isP_S {n c d : Int} (h : isP n c d = true) : isP n d (-c) = true := by unfold isP at *; rw [gcd_S]; exact h
theorem isP_U {n c d : Int} (h : isP n c d = true) : isP n (c + d) (-c) = true := by unfold isP at *; rw [gcd_U]; exact h
theorem ledL_at (n a b c d : Int) {l : List (Int × Int)} {k : Nat} (h : k < l.length) : (ledL n a b c d l).getD k 0 = (kOf n ((l.getD k (0, 0)).1 * a + (l.getD k (0, 0)).2 * c) ((l.getD k (0, 0)).1 * b + (l.getD k (0, 0)).2 * d) : Int) := by
  simp [ledL, List.getD, List.getElem?_map, List.getElem?_eq_getElem h]
set_option maxHeartbeats 4000000 in
theorem l06Kept_is (n : Int) (h1 : 1 ≤ n) (h2 : n ≤ 60) (v : Value) (L : Nat) (w : World) (hG : GrSS w L v (prs (ln n))) (N : Nat) (hN : (ln n).length = N) :
    Calls Tryd.prog 47 #[(.int .i64 n), v] w fun e w' => e = .returned (.tuple #[(.int .i64 ((cntF (ledL n 0 (-1) 1 0 (ln n)) N : Int))), (.int .i64 ((cntF (ledL n 1 (-1) 1 0 (ln n)) N : Int)))]) ∧ Below w.heap.size w w' := by
  have hpl : (prs (ln n)).length = N := by simp [prs, hN]
  have hNb : N ≤ 3600 := by rw [← hN]; exact ln_len h2
  obtain ⟨ad, cap, hv⟩ := hG.shape
  subst hv
  rw [hpl] at hG ⊢
  have HG := Lib.hid hG
  have HN := Lib.hid (And.intro hN hpl)
  have HB := Lib.hid (And.intro h1 h2)
  clear hG hN hpl
  obtain ⟨l1, hl1⟩ : ∃ l, ledL n 0 (-1) 1 0 (ln n) = l := ⟨_, rfl⟩
  obtain ⟨l2, hl2⟩ : ∃ l, ledL n 1 (-1) 1 0 (ln n) = l := ⟨_, rfl⟩
  have HL := Lib.hid (And.intro hl1 hl2)
  rw [hl1, hl2]
  clear hl1 hl2
  go_enter Tryd.func47, Tryd.ntmps47
  go_wp2
  go_loopw [6, 7, 8] (fun s t i wr => ∃ (k : Nat) (x y : Int), k ≤ N ∧ i = (.int .i64 ((k : Int))) ∧ s = (.int .i64 x) ∧ t = (.int .i64 y) ∧ 0 ≤ x ∧ x ≤ k ∧ 0 ≤ y ∧ y ≤ k ∧ Hid ((cntF l1 k : Int) = x ∧ (cntF l2 k : Int) = y) ∧ Below w.heap.size w wr) (fun _ _ i _ => N - (intOf i).toNat)
  case atStart => exact ⟨0, 0, 0, Nat.zero_le _, rfl, rfl, rfl, by omega, by omega, by omega, by omega, Lib.hid ⟨by simp [cntF], by simp [cntF]⟩, own_refl w⟩
  case round =>
    obtain ⟨k, x, y, hk, rfl, rfl, rfl, x0, x1, y0, y1, HS, hb⟩ := hrel
    by_cases hlt : k < N
    · have HG1 := Lib.hid (HG.out.own hb)
      have hjx : k < (prs (ln n)).length := by rw [HN.out.2]; exact hlt
      have hjl : k < (ln n).length := by rw [HN.out.1]; exact hlt
      obtain ⟨vs, HV⟩ := HG1.out
      obtain ⟨g, rfl, _, _, hcl⟩ := HV.rowAt rfl (by omega)
      have c0 := hcl k hjx
      have hrow := HV.row hjx
      rw [prs_get hjl] at hrow
      obtain ⟨ad2, cap2, e2⟩ := hrow.shape
      rw [e2] at hrow c0
      obtain ⟨g2, rfl, _, _, hc2⟩ := hrow.cellsZ (by simp)
      have c1 := (hc2 0 (by simp)).1
      have c2 := (hc2 1 (by simp)).1
      simp only [List.length_cons, List.length_nil, List.getD_cons_zero, List.getD_cons_succ, Nat.zero_add, Nat.reduceAdd] at c0 c1 c2
      clear hcl hc2 hrow e2
      obtain ⟨m1, m2, m3, m4, m5⟩ := ln_at HB.out.1 hjl
      have L1 := ledL_at n 0 (-1) 1 0 hjl
      have L2 := ledL_at n 1 (-1) 1 0 hjl
      rw [HL.out.1] at L1
      rw [HL.out.2] at L2
      generalize ((ln n).getD k (0, 0)).1 = p at *
      generalize ((ln n).getD k (0, 0)).2 = q at *
      have m5 : isP n p q = true := by
        unfold okP at m5
        simp at m5
        exact m5.1
      obtain ⟨hK1, hat1⟩ := kOf_spec HB.out.1 (isP_S m5)
      obtain ⟨hK2, hat2⟩ := kOf_spec HB.out.1 (isP_U m5)
      have HA := Lib.hid (fun v L w hG => l06Number_is n q (-p) HB.out.1 HB.out.2 (by unfold I64; omega) (by unfold I64; omega) (isP_S m5) _ hK1 hat1 v L w hG)
      have HU := Lib.hid (fun v L w hG => l06Number_is n (p + q) (-p) HB.out.1 HB.out.2 (by unfold I64; omega) (by unfold I64; omega) (isP_U m5) _ hK2 hat2 v L w hG)
      rw [show p * 0 + q * 1 = q by omega, show p * (-1) + q * 0 = -p by omega] at L1
      rw [show p * 1 + q * 1 = p + q by omega, show p * (-1) + q * 0 = -p by omega] at L2
      have hpq : p ≤ 60 ∧ q ≤ 60 := by have := HB.out; omega
      generalize kOf n q (-p) = S at *
      generalize kOf n (p + q) (-p) = U at *
      clear hK1 hat1 hK2 hat2 m5 hjx hjl
      go_wp2_with fail
      go_region_held3 (fun w' => w'.cell? ⟨g, k, none⟩ = some (.slice (some ⟨g2, 0, none⟩) 2 cap2) ∧ w'.cell? ⟨g2, 0, none⟩ = some (.int .i64 p) ∧ w'.cell? ⟨g2, 1, none⟩ = some (.int .i64 q)) (go_keep) (fail)
      go_wp2_with fail
      refine (HA.out _ _ wr.drew ⟨vs, HV.own (own_drew (own_refl _))⟩).mono ?_
      rintro e w1 ⟨rfl, hb1⟩
      have T1 := own_trans (own_drew hb) hb1
      have HV1 := (HV.own (own_drew (own_refl _))).own hb1
      have L1 := Lib.hid L1
      have L2 := Lib.hid L2
      clear hb1 c0 c1 c2
      by_cases h1 : S = k
      · have e1 : Hid (S = k) := Lib.hid h1
        have f1 : ((S : Int) == (k : Int)) = true := by simp [h1]
        clear h1
        go_wp2_with fail
        refine (HU.out _ _ w1 ⟨vs, HV1⟩).mono ?_
        rintro e w2 ⟨rfl, hb2⟩
        have T2 := own_trans T1 hb2
        clear hb2
        by_cases h2 : U = k
        · have e2 : Hid (U = k) := Lib.hid h2
          have f2 : ((U : Int) == (k : Int)) = true := by simp [h2]
          clear h2
          go_wp2
          go_round
          case rel => exact ⟨k + 1, x + 1, y + 1, by omega, by go_num, by go_num, by go_num, by omega, by omega, by omega, by omega, Lib.hid ⟨cntF_yes (L1.out.trans (congrArg _ e1.out)) HS.out.1, cntF_yes (L2.out.trans (congrArg _ e2.out)) HS.out.2⟩, T2⟩
          case measure => simp [intOf]; omega
        · have e2 : Hid (¬ (U = k)) := Lib.hid h2
          have f2 : ((U : Int) == (k : Int)) = false := by simp; omega
          clear h2
          go_wp2
          go_round
          case rel => exact ⟨k + 1, x + 1, y, by omega, by go_num, by go_num, rfl, by omega, by omega, by omega, by omega, Lib.hid ⟨cntF_yes (L1.out.trans (congrArg _ e1.out)) HS.out.1, cntF_no (by rw [L2.out]; exact fun h => e2.out (by omega)) HS.out.2⟩, T2⟩
          case measure => simp [intOf]; omega
      · have e1 : Hid (¬ (S = k)) := Lib.hid h1
        have f1 : ((S : Int) == (k : Int)) = false := by simp; omega
        clear h1
        go_wp2_with fail
        refine (HU.out _ _ w1 ⟨vs, HV1⟩).mono ?_
        rintro e w2 ⟨rfl, hb2⟩
        have T2 := own_trans T1 hb2
        clear hb2
        by_cases h2 : U = k
        · have e2 : Hid (U = k) := Lib.hid h2
          have f2 : ((U : Int) == (k : Int)) = true := by simp [h2]
          clear h2
          go_wp2
          go_round
          case rel => exact ⟨k + 1, x, y + 1, by omega, by go_num, rfl, by go_num, by omega, by omega, by omega, by omega, Lib.hid ⟨cntF_no (by rw [L1.out]; exact fun h => e1.out (by omega)) HS.out.1, cntF_yes (L2.out.trans (congrArg _ e2.out)) HS.out.2⟩, T2⟩
          case measure => simp [intOf]; omega
        · have e2 : Hid (¬ (U = k)) := Lib.hid h2
          have f2 : ((U : Int) == (k : Int)) = false := by simp; omega
          clear h2
          go_wp2
          go_round
          case rel => exact ⟨k + 1, x, y, by omega, by go_num, rfl, rfl, by omega, by omega, by omega, by omega, Lib.hid ⟨cntF_no (by rw [L1.out]; exact fun h => e1.out (by omega)) HS.out.1, cntF_no (by rw [L2.out]; exact fun h => e2.out (by omega)) HS.out.2⟩, T2⟩
          case measure => simp [intOf]; omega
    · obtain rfl : k = N := by omega
      go_wp2
      go_ret2
      exact ⟨by rw [HS.out.1, HS.out.2]; rfl, hb⟩


theorem nm_S {w : World} {b : Nat} (h : LMn w 80 9 b namedF 5) : (Instr.lookup 80 (.map (some b)) (.string ⟨#[83]⟩) false).run Tryd.prog w = .ok (.agg #[.int .i64 0, .int .i64 (-1), .int .i64 1, .int .i64 0]) w := by
  have k := h.look1 str_keyed (.string ⟨#[83]⟩) _ (str_key ⟨#[83]⟩ (by decide))
  rw [show namedF (.string (⟨#[83]⟩ : ByteArray).data.toList) = some ⟨0, -1, 1, 0⟩ by simp [namedF]] at k
  exact k
theorem nm_U {w : World} {b : Nat} (h : LMn w 80 9 b namedF 5) : (Instr.lookup 80 (.map (some b)) (.string ⟨#[85]⟩) false).run Tryd.prog w = .ok (.agg #[.int .i64 1, .int .i64 (-1), .int .i64 1, .int .i64 0]) w := by
  have k := h.look1 str_keyed (.string ⟨#[85]⟩) _ (str_key ⟨#[85]⟩ (by decide))
  rw [show namedF (.string (⟨#[85]⟩ : ByteArray).data.toList) = some ⟨1, -1, 1, 0⟩ by simp [namedF]] at k
  exact k
theorem implKp_no (n : Int) (hn : inR n 1 60 = false) (w : World) : Calls Tryd.prog 49 #[(.int .i64 n)] w fun e w' => e = .returned (.tuple #[(.int .i64 0), (.int .i64 0), (.int .i64 2)]) ∧ Below w.heap.size w w' := by
  have HN := Lib.hid hn
  clear hn
  go_enter Tryd.func49, Tryd.ntmps49
  go_wp2_with fail
  refine (isLevel_is false _ HN.out _).mono ?_
  rintro e w2 ⟨rfl, rfl⟩
  go_wp2
  go_ret3
  exact ⟨rfl, by repeat (first | with_reducible exact own_refl _ | with_reducible assumption | with_reducible apply own_alloc | with_reducible apply own_drewN | with_reducible apply own_drew | ((with_reducible refine own_setCell ?_ ?_ _); rotate_left; focus (first | (simp; done) | (simp; omega))) | (with_reducible (refine own_trans ?_ (by assumption))))⟩
set_option maxRecDepth 100000 in
set_option maxHeartbeats 4000000 in
theorem implKp_yes (n : Int) (hn : inR n 1 60 = true) (N : Nat) (hN : (ln n).length = N) (w : World) (hid : Idn w) (hmx : MxS w) : Calls Tryd.prog 49 #[(.int .i64 n)] w fun e w' => e = .returned (.tuple #[(.int .i64 ((cntF (ledL n 0 (-1) 1 0 (ln n)) N : Int))), (.int .i64 ((cntF (ledL n 1 (-1) 1 0 (ln n)) N : Int))), (.int .i64 0)]) ∧ Below w.heap.size w w' := by
  have HN := Lib.hid hn
  have hn' : 1 ≤ n ∧ n ≤ 60 := of_decide_eq_true hn
  have HL := Lib.hid (fun w => levelOf_own n hn'.1 hn'.2 w)
  have hp : ∀ p ∈ ln n, isP n p.1 p.2 = true := fun p hp => by
    have := (lnL_mem hp).2.2.2.2
    unfold okP at this
    simp at this
    exact this.1
  have hlen : N ≤ 3600 := by rw [← hN]; exact ln_len hn'.2
  have HS := Lib.hid (fun gu ou cu w hC => led_any n 0 (-1) 1 0 hn'.1 hn'.2 (by omega) (by omega) (by omega) (by omega) (fun p h => by rw [show p.1 * 0 + p.2 * 1 = p.2 by omega, show p.1 * (-1) + p.2 * 0 = -p.1 by omega]; exact isP_S (hp p h)) gu ou cu w hC)
  have HU := Lib.hid (fun gu ou cu w hC => led_any n 1 (-1) 1 0 hn'.1 hn'.2 (by omega) (by omega) (by omega) (by omega) (fun p h => by rw [show p.1 * 1 + p.2 * 1 = p.1 + p.2 by omega, show p.1 * (-1) + p.2 * 0 = -p.1 by omega]; exact isP_U (hp p h)) gu ou cu w hC)
  have e1 : (ledL n 0 (-1) 1 0 (ln n)).length = N := by simp [ledL, hN]
  have e2 : (ledL n 1 (-1) 1 0 (ln n)).length = N := by simp [ledL, hN]
  generalize ledL n 0 (-1) 1 0 (ln n) = l1 at *
  generalize ledL n 1 (-1) 1 0 (ln n) = l2 at *
  have F1 := Lib.hid (fun v L w hG => countFixed_any l1 N e1 hlen v L w hG)
  have F2 := Lib.hid (fun v L w hG => countFixed_any l2 N e2 hlen v L w hG)
  generalize cntF l1 N = s at *
  generalize cntF l2 N = t at *
  have HM := Lib.hid (And.intro hid hmx)
  clear hn hn' hN hp e1 e2 hlen hid hmx
  go_enter Tryd.func49, Tryd.ntmps49
  go_wp2_with fail
  refine (isLevel_is true _ HN.out _).mono ?_
  rintro e w2 ⟨rfl, rfl⟩
  go_wp2_with fail
  refine (HL.out _).mono ?_
  rintro e w3 ⟨gu, ou, cu, rfl, _, hC3, hb3⟩
  go_wp2_with fail
  refine (named_any _ (Rd.below HM.out.1 hb3) (Rd.below HM.out.2 hb3)).mono ?_
  rintro e w4 ⟨rfl, l4, hb4⟩
  go_wp2_with fail
  have T5 : Below w3.heap.size w3 (w4.alloc (.cells #[(.int .i64 n), .slice (some ⟨gu, ou, none⟩) (cop n n.toNat).length cu] 62)) := own_alloc hb4 _
  have B5 : Box (w4.alloc (.cells #[(.int .i64 n), .slice (some ⟨gu, ou, none⟩) (cop n n.toNat).length cu] 62)) w4.heap.size [(.int .i64 n), .slice (some ⟨gu, ou, none⟩) (cop n n.toNat).length cu] := Box.new _ _ _
  have l5 := l4.below (own_alloc (own_refl w4) (.cells #[(.int .i64 n), .slice (some ⟨gu, ou, none⟩) (cop n n.toNat).length cu] 62))
  generalize w4.alloc (.cells #[(.int .i64 n), .slice (some ⟨gu, ou, none⟩) (cop n n.toNat).length cu] 62) = w5 at *
  have T5 := own_drew T5
  have B5 := B5.drew
  have l5 := l5.drew
  have kS := nm_S l5
  have kU := nm_U l5
  obtain ⟨_, _, _, _, _⟩ := B5.two
  clear l4 hb4
  go_region_held3 (fun w' => w'.cell? ⟨w4.heap.size, 0, none⟩ = some (.int .i64 n) ∧ w'.cell? ⟨w4.heap.size, 1, none⟩ = some (.slice (some ⟨gu, ou, none⟩) (cop n n.toNat).length cu) ∧ (Instr.lookup 80 (.map (some w3.heap.size)) (.string ⟨#[83]⟩) false).run Tryd.prog w' = .ok (.agg #[.int .i64 0, .int .i64 (-1), .int .i64 1, .int .i64 0]) w' ∧ (Instr.lookup 80 (.map (some w3.heap.size)) (.string ⟨#[85]⟩) false).run Tryd.prog w' = .ok (.agg #[.int .i64 1, .int .i64 (-1), .int .i64 1, .int .i64 0]) w') (go_keep)
    (first
      | (go_at_call 38; refine (HU.out _ _ _ _ (hC3.low T6 hC3.1)).mono ?_; rintro e w8 ⟨v8, rfl, G8, hb8⟩; have T8 := own_trans T6 hb8; have B8 := B6.below hb8; have l8 := l6.below hb8; have kS8 := nm_S l8; have kU8 := nm_U l8; obtain ⟨_, _, _, _, _⟩ := B8.two; clear hb8)
      | (go_at_call 76; refine (F2.out _ _ _ G8).mono ?_; rintro e w9 ⟨rfl, rfl⟩)
      | (go_at_call 38; refine (HS.out _ _ _ _ (hC3.low T5 hC3.1)).mono ?_; rintro e w6 ⟨v6, rfl, G6, hb6⟩; have T6 := own_trans T5 hb6; have B6 := B5.below hb6; have l6 := l5.below hb6; have kS6 := nm_S l6; have kU6 := nm_U l6; obtain ⟨_, _, _, _, _⟩ := B6.two; clear hb6)
      | (go_at_call 76; refine (F1.out _ _ _ G6).mono ?_; rintro e w7 ⟨rfl, rfl⟩))
  all_goals
    go_wp2
    go_ret3
    exact ⟨rfl, own_trans hb3 T8⟩
end Go.Proofs.YtfchfakkbdfajaaDoor
