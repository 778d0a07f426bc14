/- LeadByMatrix: the model. -/
import Derived.Test.YtfchfakkbdfajaaDoorLmI
namespace Go.Proofs.YtfchfakkbdfajaaDoor
open Go.ChangeShapes Go.WideShapes Go.ChangeAt Go.RowKit


/-- what is left of a chain's way behind k numbers -/
def lst (s t : List Int) (n : Nat) (xs : List Int) (k i : Nat) : Nat := if k = 0 then ldM s t n xs i else ldF s t n (xs.drop k) i
def stpS (s : List Int) (k i : Nat) : Nat := if k = 0 then i else pt s i
theorem lst_step {s t : List Int} {n : Nat} {xs : List Int} {k i : Nat} (hk : k < xs.length) : lst s t n xs k i = lst s t n xs (k + 1) (pw t n (xs.getD k 0) (stpS s k i)) := by
  unfold lst stpS
  by_cases h : k = 0
  · subst h; simp [ldM]
  · rw [if_neg h, if_neg (by omega), if_neg h, drop_at hk]
    rfl
theorem lst_end {s t : List Int} {n : Nat} {xs : List Int} {k i : Nat} (hk : k = xs.length) (h0 : 0 < k) : lst s t n xs k i = i := by
  unfold lst
  rw [if_neg (by omega), hk, List.drop_eq_nil_of_le (Nat.le_refl _)]
  rfl
set_option maxRecDepth 100000 in
set_option maxHeartbeats 8000000 in
theorem l10Lead_is (s t : List Int) (n : Nat) (hn : n ≤ 1000) (hs : Pm s n) (ht : Pm t n) (a b c d : Int) (h : isM a b c d = true) (j : Nat) (hj : j < n) (av bv : Value) (w : World) (ha : Rl w av s) (hb : Rl w bv t) :
    Calls Tryd.prog 43 #[.agg #[av, bv], (.agg #[.int .i64 a, .int .i64 b, .int .i64 c, .int .i64 d]), (.int .i64 ((j : Int)))] w fun e w' => e = .returned (.int .i64 (((ldM s t n (chL c.natAbs a b c d) j : Nat) : Int))) ∧ Below w.heap.size w w' := by
  have hent := isM_ent h
  have HCh := Lib.hid (fun w' => specChain_any c.natAbs a b c d hent (Nat.le_refl _) (by obtain ⟨_, _, hc, _⟩ := hent; unfold Ent at hc; omega) w')
  obtain ⟨hE, hL0⟩ := chL_ent c.natAbs (show Det a b c d from hent) (Nat.le_refl _)
  have hLl : (chL c.natAbs a b c d).length ≤ 1000000001 := by
    have := chL_len c.natAbs a b c d
    obtain ⟨_, _, hc, _⟩ := hent
    unfold Ent at hc
    omega
  have HEN := Lib.hid hE
  have HLS : Hid (lst s t n (chL c.natAbs a b c d) 0 j = ldM s t n (chL c.natAbs a b c d) j) := Lib.hid rfl
  have HP := Lib.hid (And.intro hs ht)
  generalize ldM s t n (chL c.natAbs a b c d) j = res at *
  generalize chL c.natAbs a b c d = xs at *
  generalize chS c.natAbs a b c d = sg at *
  obtain ⟨g, k1, rfl, hg⟩ := ha.at (by rw [hs.len]; omega)
  obtain ⟨g', k2, rfl, hg'⟩ := hb.at (by rw [ht.len]; omega)
  have HG := Lib.hid (And.intro hg hg')
  rw [hs.len, ht.len] at *
  clear hs ht ha hb hg hg' hE hent h
  have B0 : Box ((w.alloc (.cells #[.slice (some ⟨g, 0, none⟩) n k1, .slice (some ⟨g', 0, none⟩) n k2] 28)).alloc (.cells #[.int .i64 a, .int .i64 b, .int .i64 c, .int .i64 d] 38)) w.heap.size [.slice (some ⟨g, 0, none⟩) n k1, .slice (some ⟨g', 0, none⟩) n k2] := (Box.new _ _ _).alloc _
  have T0 := own_alloc (own_alloc (own_refl w) (.cells #[.slice (some ⟨g, 0, none⟩) n k1, .slice (some ⟨g', 0, none⟩) n k2] 28)) (.cells #[.int .i64 a, .int .i64 b, .int .i64 c, .int .i64 d] 38)
  go_enter Tryd.func43, Tryd.ntmps43
  go_wp2_with fail
  refine (HCh.out _).mono ?_
  rintro e w2 ⟨v, rfl, G2, hb2⟩
  have T2 := own_trans T0 hb2
  have B2 := B0.below hb2
  obtain ⟨av, cv, e⟩ := G2.shape
  subst e
  clear hb2 T0 B0
  obtain ⟨L, hL⟩ : ∃ L, xs.length = L := ⟨_, rfl⟩
  have HLl := Lib.hid hL
  rw [hL] at hL0 hLl G2 ⊢
  clear hL
  obtain ⟨gc, rfl, _, _, _⟩ := G2.cellsZ hL0
  have G2 : ∃ U, Gr w2 U (.slice (some ⟨gc, 0, none⟩) L cv) xs := ⟨_, G2⟩
  go_wp2
  go_loopw [2, 9] (fun x y wr => ∃ (k i : Nat), k ≤ L ∧ y = (.int .i64 ((k : Int))) ∧ x = (.int .i64 ((i : Int))) ∧ i < n ∧ Hid (lst s t n xs k i = res) ∧ Below w.heap.size w wr ∧ Box wr w.heap.size [.slice (some ⟨g, 0, none⟩) n k1, .slice (some ⟨g', 0, none⟩) n k2] ∧ ∃ U, Gr wr U (.slice (some ⟨gc, 0, none⟩) L cv) xs) (fun _ y _ => L - (intOf y).toNat)
  case atStart => exact ⟨0, j, Nat.zero_le _, rfl, rfl, hj, HLS, T2, B2, G2⟩
  case round =>
    clear T2 B2 G2 hj HLS
    obtain ⟨k, i, hk, rfl, rfl, hi, HK, T, B, U, G⟩ := hrel
    by_cases hlt : k < L
    · have hkx : k < xs.length := by rw [HLl.out]; exact hlt
      have HK1 : Hid (k + 1 ≤ L ∧ k < L) := Lib.hid (by omega)
      have hkb : k + 1 ≤ 2000000000 := by omega
      obtain ⟨_, e, _, hgl, hcs⟩ := G.cellsZ hL0
      injection e with e; injection e with e; subst e
      have cq := (hcs k hlt).1
      have hq : I64 (xs.getD k 0) := by have := HEN.out _ (getD_mem hkx); unfold Ent at this; unfold I64; omega
      have HD : Hid (lst s t n xs (k + 1) (pw t n (xs.getD k 0) (stpS s k i)) = res) := Lib.hid (by rw [← lst_step hkx]; exact HK.out)
      obtain ⟨es, hp1⟩ := HP.out.1.at hi
      have cS := (HG.out.1.below T).2 i (by rw [HP.out.1.len]; exact hi)
      rw [es] at cS
      have hst : stpS s k i < n := by unfold stpS; split; exact hi; exact hp1
      have HST : Hid (stpS s k i = if k = 0 then i else pt s i) := Lib.hid rfl
      obtain ⟨-, b0, b1, -, -⟩ := B.two
      clear hcs HK es
      obtain ⟨q, hqq⟩ : ∃ q, xs.getD k 0 = q := ⟨_, rfl⟩
      have HQ := Lib.hid hqq
      rw [hqq] at cq hq HD
      clear hqq
      generalize stpS s k i = i1 at *
      generalize pt s i = y1 at *
      generalize wr = wo at *
      go_upto_if 25 with fail
      go_cut [2] (fun x wx => x = (.int .i64 ((i1 : Int))) ∧ wx = wo)
      case first =>
        by_cases h0 : k = 0
        · have e1 : Hid (i1 = i) := Lib.hid (by rw [HST.out, if_pos h0])
          subst h0
          go_wp2_with fail
          go_meet
          exact ⟨by rw [e1.out], rfl⟩
        · have e1 : Hid (i1 = y1) := Lib.hid (by rw [HST.out, if_neg h0])
          have h1 : 0 < k := by omega
          go_wp2_with fail
          go_meet
          exact ⟨by rw [e1.out], rfl⟩
      case rest =>
        obtain ⟨rfl, rfl⟩ := hcut
        clear HST cS hp1 hi
        have HTw := Lib.hid (HG.out.2.below T)
        obtain ⟨et, hp2⟩ := HP.out.2.at hst
        have cT := HTw.out.2 i1 (by rw [HP.out.2.len]; exact hst)
        rw [et] at cT
        have hcl := cyc_len HP.out.2 hst
        have HR0 : Hid (Rch t i1 (n - 1) (pt t i1)) := Lib.hid (rch_of HP.out.2 hst)
        have HCL : Hid ((cyc t i1 n).length = 1 + dst t i1 n (pt t i1)) := Lib.hid hcl.1
        have HPW : Hid (pw t n q i1 = itr t (rst q ((cyc t i1 n).length : Int)).toNat i1) := Lib.hid rfl
        have hcl2 := hcl.2
        have hc0 : 0 < (cyc t i1 n).length := by simp [cyc]
        generalize (cyc t i1 n).length = cl at *
        obtain ⟨pj, hpj⟩ : ∃ pj, pt t i1 = pj := ⟨_, rfl⟩
        rw [hpj] at cT hp2 HR0 HCL
        clear et hcl hpj
        go_wp2
        go_loopw [10, 11] (fun x y wr => ∃ (f jj l : Nat), y = (.int .i64 ((jj : Int))) ∧ x = (.int .i64 ((l : Int))) ∧ jj < n ∧ f ≤ n ∧ Hid (Rch t i1 f jj) ∧ Hid (l + dst t i1 n jj = cl) ∧ l ≤ cl ∧ Below w.heap.size w wr ∧ Box wr w.heap.size [.slice (some ⟨g, 0, none⟩) n k1, .slice (some ⟨g', 0, none⟩) n k2] ∧ Gr wr U (.slice (some ⟨gc, 0, none⟩) L cv) xs) (fun _ y _ => dst t i1 n (intOf y).toNat)
        case atStart => exact ⟨n - 1, pj, 1, rfl, rfl, hp2, by omega, HR0, Lib.hid HCL.out.symm, by omega, T, B, G⟩
        case round =>
          clear T B G b0 b1 cq cT
          obtain ⟨f, jj, l, rfl, rfl, hjj, hf, HR, HLd, hlc, T, B, G⟩ := hrel
          obtain ⟨-, b0, b1, -, -⟩ := B.two
          obtain ⟨_, e, _, hgl2, hcs⟩ := G.cellsZ hL0
          injection e with e; injection e with e; subst e
          have cq := (hcs k hlt).1
          rw [HQ.out] at cq
          obtain ⟨et, hp3⟩ := HP.out.2.at hjj
          have cT := (HG.out.2.below T).2 jj (by rw [HP.out.2.len]; exact hjj)
          rw [et] at cT
          clear hcs
          by_cases hji : jj = i1
          · have hl2 : l = cl := by
              have h := HLd.out
              have h0 : dst t i1 n i1 = 0 := by
                cases n with
                | zero => rfl
                | succ n => rw [dst, if_pos rfl]
              rw [hji, h0] at h
              omega
            subst hji hl2
            have hrb := rst_bd (x := q) (n := (l : Int)) (by omega)
            have HM := Lib.hid (l01Mod_any q (l : Int) (by omega) (by omega) hq)
            obtain ⟨r, hr⟩ : ∃ r : Nat, rst q (l : Int) = r := ⟨(rst q (l : Int)).toNat, by omega⟩
            rw [hr] at HPW HM hrb
            simp only [Int.toNat_natCast] at HPW
            clear HR HLd HR0 HCL hr cT et hp3
            go_wp2_with fail
            refine (HM.out _).mono ?_
            rintro e w5 ⟨rfl, rfl⟩
            go_wp2
            go_loopw [2, 12] (fun x y wr => ∃ cc : Nat, cc ≤ r ∧ x = (.int .i64 (((itr t cc jj : Nat) : Int))) ∧ y = (.int .i64 ((r : Int) - cc)) ∧ Below w.heap.size w wr ∧ Box wr w.heap.size [.slice (some ⟨g, 0, none⟩) n k1, .slice (some ⟨g', 0, none⟩) n k2] ∧ Gr wr U (.slice (some ⟨gc, 0, none⟩) L cv) xs) (fun _ y _ => (intOf y).toNat)
            case atStart => exact ⟨0, Nat.zero_le _, rfl, by simp, T, B, G⟩
            case round =>
              clear T B G b0 b1 cq
              obtain ⟨cc, hcc, rfl, rfl, T, B, G⟩ := hrel
              obtain ⟨-, b0, b1, -, -⟩ := B.two
              have hix := itr_lt HP.out.2 cc hjj
              by_cases hcr : cc < r
              · obtain ⟨et, hp4⟩ := HP.out.2.at hix
                have cT := (HG.out.2.below T).2 _ (by rw [HP.out.2.len]; exact hix)
                rw [et] at cT
                have HI2 : Hid (itr t (cc + 1) jj = pt t (itr t cc jj)) := Lib.hid (itr_succ t cc jj)
                clear et
                generalize itr t cc jj = ic at *
                generalize pt t ic = id at *
                have hpos : ¬ (r : Int) - cc = 0 := by omega
                go_wp2
                go_roundw
                case rel => exact ⟨cc + 1, by omega, by rw [HI2.out], by go_num, T, B, G⟩
                case measure => simp [intOf]; omega
              · obtain rfl : cc = r := by omega
                rw [← HPW.out] at hix ⊢
                have hzero : (cc : Int) - cc = 0 := by omega
                rw [hzero]
                go_wp2
                go_roundw
                case rel => exact ⟨k + 1, _, HK1.out.1, by go_num, rfl, hix, HD, T, B, U, G⟩
                case measure => simp [intOf]; have := HK1.out; omega
          · have hf0 : 0 < f := by
              rcases Nat.eq_zero_or_pos f with h | h
              · subst h; exact absurd HR.out.zero hji
              · exact h
            obtain ⟨f, rfl⟩ : ∃ f', f = f' + 1 := ⟨f - 1, by omega⟩
            have HR2 : Hid (Rch t i1 f (pt t jj)) := Lib.hid (HR.out.next hji)
            have HDs : Hid (dst t i1 n jj = 1 + dst t i1 n (pt t jj)) := Lib.hid (dst_step HR.out hf hji)
            have HL2 : Hid (l + 1 + dst t i1 n (pt t jj) = cl ∧ l + 1 ≤ cl) := Lib.hid (by have h1 := HLd.out; have h2 := HDs.out; omega)
            have hx : ¬ (jj : Int) = (i1 : Int) := by omega
            clear HR HLd et hji
            generalize pt t jj = j2 at *
            go_wp2
            go_roundw
            case rel => exact ⟨f, j2, l + 1, rfl, by go_num, hp3, by omega, HR2, Lib.hid HL2.out.1, HL2.out.2, T, B, G⟩
            case measure =>
              simp only [intOf, Int.toNat_natCast]
              rw [HDs.out]
              omega
    · obtain rfl : k = L := by omega
      have HE : Hid (((i : Nat) : Int) = (res : Int)) := Lib.hid (by
        have h := HK.out
        rw [lst_end HLl.out.symm hL0] at h
        rw [h])
      go_wp2
      go_ret
      exact ⟨ret_int HE.out, T⟩
end Go.Proofs.YtfchfakkbdfajaaDoor
