/- The continued fraction: mathematics, and the contracts of its parts. -/
import Derived.Test.YtejghidllochoaaFl
import Derived.Test.YtejghidllochoaaGr
import Derived.Test.YtejghidllochoaaRunS
import Derived.Test.YtejghidllochoaaRet
import Derived.Test.YtejghidllochoaaJump
namespace Go.Proofs.Ytejghidllochoaa
open Go.ChangeShapes Go.WideShapes Go.ChangeAt Go.RowKit

/-- the rest of x by n -/
def rsM (x n : Int) : Int := (x.tmod n + n) % n
theorem rsM_is (x n : Int) : rsM x n = x % n := by
  unfold rsM
  rw [Int.add_emod_right]
  have e := Int.mul_tdiv_add_tmod x n
  have : x % n = (n * x.tdiv n + x.tmod n) % n := by rw [e]
  rw [this, Int.mul_add_emod_self_left]
theorem fl_pos {x y : Int} (hy : 0 < y) : fl x y = x / y := by unfold fl; rw [if_neg (by omega)]
theorem fl_facts {p q : Int} (hq : 0 < q) (hp : Ent p) (hq' : Ent q) : Ent (fl p q) ∧ 0 ≤ p - fl p q * q ∧ p - fl p q * q < q ∧ p - p % q = fl p q * q ∧ 0 ≤ p % q ∧ p % q < q := by
  rw [fl_pos hq]
  have e := Int.mul_ediv_add_emod p q
  have e1 := Int.emod_nonneg p (show q ≠ 0 by omega)
  have e2 := Int.emod_lt_of_pos p hq
  rw [Int.mul_comm] at e
  unfold Ent at *
  refine ⟨?_, by omega, by omega, by omega, e1, e2⟩
  constructor
  · rw [Int.le_ediv_iff_mul_le hq]
    have : -1000000000 * q ≤ -1000000000 * 1 := Int.mul_le_mul_of_nonpos_left (by omega) (by omega)
    omega
  · refine Int.ediv_le_of_le_mul hq ?_
    have : 1000000000 * 1 ≤ 1000000000 * q := Int.mul_le_mul_of_nonneg_left (by omega) (by omega)
    omega
/-- The continued fraction, by a bound of how many numbers there are. -/
def cfL : Nat → Int → Int → List Int
  | 0, _, _ => []
  | f + 1, p, q => if q ≤ 0 then [] else fl p q :: cfL f q (p - fl p q * q)
theorem cf_zero (f : Nat) (p : Int) : cfL f p 0 = [] := by cases f <;> simp [cfL]
theorem cf_len : ∀ (f : Nat) (p q : Int), (cfL f p q).length ≤ f
  | 0, _, _ => by simp [cfL]
  | f + 1, p, q => by
    unfold cfL
    split
    · simp
    · simp [cf_len f]
theorem cf_round {f : Nat} {p q : Int} (hq : 0 < q) (hp : Ent p) (hq' : Ent q) (hf : q.natAbs ≤ f) :
    ∃ (k : Nat) (n r : Int), f = k + 1 ∧ fl p q = n ∧ p - n * q = r ∧ Ent n ∧ 0 ≤ r ∧ r < q ∧ Ent r ∧ Hid (cfL f p q = n :: cfL k q r) ∧ r.natAbs ≤ k := by
  obtain ⟨h1, h2, h3, _⟩ := fl_facts hq hp hq'
  obtain ⟨k, rfl⟩ : ∃ k, f = k + 1 := ⟨f - 1, by omega⟩
  refine ⟨k, _, _, rfl, rfl, rfl, h1, h2, h3, by unfold Ent at *; omega, Lib.hid ?_, by omega⟩
  rw [cfL, if_neg (by omega)]
theorem floor_exact {a b : Int} (hb : 0 < b) (ha : Ent a) (hb' : Ent b) : (a - rsM a b).tdiv b = fl a b := by
  obtain ⟨_, _, _, h4, _⟩ := fl_facts hb ha hb'
  rw [rsM_is, h4]
  exact Int.mul_tdiv_cancel _ (by omega)

theorem sm_of_ent {x : Int} (h : Ent x) : Sm x := by unfold Ent at h; unfold Sm; omega
theorem rsM_bd {x n : Int} (hn : 1 ≤ n) : -n < x.tmod n ∧ x.tmod n < n := by
  have h3 : (x.tmod n).natAbs = x.natAbs % n.natAbs := Int.natAbs_tmod x n
  have h4 : x.natAbs % n.natAbs < n.natAbs := Nat.mod_lt _ (by omega)
  omega
theorem modE_is (x n r : Int) (hr : rsM x n = r) (h1 : 0 < n) (hn : Ent n) (hx : Ent x) (w : World) :
    Calls Try.prog 41 #[(.int .i64 x), (.int .i64 n)] w fun e w' => e = .returned (.int .i64 r) ∧ w = w' := by
  obtain ⟨_, _⟩ := hx
  obtain ⟨_, _⟩ := hn
  obtain ⟨_, _⟩ := rsM_bd (x := x) (show 1 ≤ n by omega)
  have h3 : 0 ≤ x.tmod n + n := by omega
  have HR : Hid ((x.tmod n + n) % n = r) := Lib.hid hr
  clear hr
  go_enter Try.func41, Try.ntmps41
  go_wp2
  go_ret
  exact ⟨ret_int HR.out, rfl⟩
set_option maxHeartbeats 1000000 in
theorem floorE_is (a b n : Int) (hn : fl a b = n) (hb : 0 < b) (ha : Ent a) (hb' : Ent b) (w : World) :
    Calls Try.prog 34 #[(.int .i64 a), (.int .i64 b)] w fun e w' => e = .returned (.int .i64 n) ∧ w = w' := by
  obtain ⟨r, hr⟩ : ∃ r, rsM a b = r := ⟨_, rfl⟩
  have h0 := floor_exact hb ha hb'
  rw [hn, hr] at h0
  have hr2 : 0 ≤ r ∧ r < b := by rw [← hr, rsM_is]; exact ⟨Int.emod_nonneg _ (by omega), Int.emod_lt_of_pos _ hb⟩
  have hnb := (fl_facts hb ha hb').1
  rw [hn] at hnb
  have HR := Lib.hid hr
  have HA := Lib.hid (show Ent a ∧ Ent b ∧ 0 < b from ⟨ha, hb', hb⟩)
  have HN := Lib.hid h0
  unfold Ent at ha hb' hnb
  clear hr h0 hn
  obtain ⟨_, _⟩ := ha
  obtain ⟨_, _⟩ := hb'
  obtain ⟨_, _⟩ := hr2
  obtain ⟨_, _⟩ := hnb
  have hb0 : (b == 0) = false := by simp; omega
  go_enter Try.func34, Try.ntmps34
  go_wp2_with fail
  refine (modE_is a b r HR.out HA.out.2.2 HA.out.2.1 HA.out.1 _).mono ?_
  rintro e w1 ⟨rfl, rfl⟩
  have h0 := HN.out
  go_wp2
  go_ret
  exact ⟨rfl, rfl⟩

theorem implFlC_is (q x y : Int) (hq : fl x y = q) (hx : Sm x) (hyb : Sm y) (hy : y ≠ 0) (w : World) :
    Calls Try.prog 38 #[(.int .i64 x), (.int .i64 y)] w fun e w' => e = .returned (.int .i64 q) ∧ w = w' := hq ▸ implFl_any x y hx hyb hy w
/-- what a round of the machine keeps -/
def RC (w wr : World) (v : Value) (xs : List Int) : Prop := Below w.heap.size w wr ∧ w.heap.size + 1 ≤ wr.heap.size ∧ Gr wr (w.heap.size + 1) v xs

/-- What holds at each jump to the machine's label. -/
def JC (F : Nat) (p0 q0 : Int) (w : World) (act : Act) (wx : World) : Prop :=
  ∃ (done : List Int) (f : Nat) (p q : Int) (sv v6 v7 v8 v9 v10 v11 v12 v13 v14 v15 v16 v17 v18 v19 v20 v21 v22 v23 v24 v25 v26 : Value), act = { tmps := #[(.agg #[.int .i64 p0, .int .i64 q0]), .pointer (some ⟨w.heap.size, 0, none⟩), .slice none 0 0, sv, (.int .i64 p), (.int .i64 q), v6, v7, v8, v9, v10, v11, v12, v13, v14, v15, v16, v17, v18, v19, v20, v21, v22, v23, v24, v25, v26], defers := [] } ∧
    cfL F p0 q0 = done ++ cfL f p q ∧ Ent p ∧ Ent q ∧ 0 < q ∧ q.natAbs ≤ f ∧ f + done.length ≤ F ∧ RC w wx sv done
def muC (F : Nat) (act : Act) : Nat := F - lenOf (act.tmps.getD 3 undef)

set_option maxRecDepth 1000000 in
set_option maxHeartbeats 8000000 in
theorem implCf_any (F : Nat) (p0 q0 : Int) (hp : Ent p0) (hq : Ent q0) (h0 : 0 < q0) (hf : q0.natAbs ≤ F) (hF : F ≤ 1000000000) (w : World) :
    Calls Try.prog 21 #[(.agg #[.int .i64 p0, .int .i64 q0])] w fun e w' => ∃ v, e = .returned v ∧ Gr w' (w.heap.size + 1) v (cfL F p0 q0) ∧ Below w.heap.size w w' := by
  have HE0 := Lib.hid (show Ent p0 ∧ Ent q0 ∧ 0 < q0 from ⟨hp, hq, h0⟩)
  clear hp hq h0
  go_enter Try.func21, Try.ntmps21
  go_wp2
  refine scope_jumps 0 (JC F p0 q0 w) (fun act _ => muC F act) rfl ?pass ?first
  case first =>
    intro pass
    go_wp2
    go_quiet (fail)
    go_wp2
    go_step3
    rename_i hK
    exact hK _ _ (pass _ _ ⟨[], F, p0, q0, _, _, _, _, _, _, _, _, _, _, _, _, _, _, _, _, _, _, _, _, _, _, rfl, rfl, HE0.out.1, HE0.out.2.1, HE0.out.2.2, hf, by first | (simp; done) | exact Nat.le_refl _, by repeat (first | with_reducible exact own_refl _ | with_reducible assumption | with_reducible apply own_alloc | with_reducible apply own_drewN | with_reducible apply own_drew | ((with_reducible refine own_setCell ?_ ?_ _); rotate_left; focus (first | (simp; done) | (simp; omega))) | (with_reducible (refine own_trans ?_ (by assumption)))), by simp, Gr.nil _ _⟩)
  case pass =>
    rintro act wx ⟨done, f, p, q, sv, v6, v7, v8, v9, v10, v11, v12, v13, v14, v15, v16, v17, v18, v19, v20, v21, v22, v23, v24, v25, v26, rfl, hL, hp, hq, hq0, hcf, hlen, T, hz, hG⟩
    obtain ⟨k, n, r, hfk, hn, hr, en, r1, r2, er, H1, H2⟩ := cf_round hq0 hp hq hcf
    have HL := Lib.hid hL
    have HN := Lib.hid hn
    have HK := Lib.hid hfk
    have HE := Lib.hid (show Ent p ∧ Ent q ∧ 0 < q from ⟨hp, hq, hq0⟩)
    have h2 := Lib.hid H2
    obtain ⟨ad, cap, hv⟩ := hG.shape
    subst hv
    have hb1 : -2000000000 ≤ n * q ∧ n * q ≤ 2000000000 := by unfold Ent at hp hq; omega
    obtain ⟨_, _⟩ := hb1
    have S3 := Lib.hid (show q ≠ 0 by omega)
    unfold Ent at hp hq er en
    obtain ⟨_, _⟩ := hp
    obtain ⟨_, _⟩ := hq
    obtain ⟨_, _⟩ := er
    obtain ⟨_, _⟩ := en
    clear hfk hn H2 hL hcf
    rcases (show r = 0 ∨ (0 < r ∧ (r != 0) = true) by simp; omega) with h | ⟨hr0, hr1⟩
    · subst h
      go_wp2_with fail
      refine (implFlC_is n p q HN.out (sm_of_ent HE.out.1) (sm_of_ent HE.out.2.1) S3.out _).mono ?_
      rintro e w2 ⟨rfl, rfl⟩
      go_wp2_with (at_builtin; refine app64 rfl _ _ rfl (w.heap.size + 1) wx (.slice ad done.length cap) done n rfl hG wx.heap.size rfl rfl (by omega) hz ?_; intro v' w1 hG1 hb1)
      simp only [Exit.jump]
      go_ret
      refine ⟨_, rfl, ?_, T.trans (hb1.mono (Nat.le_succ _))⟩
      rw [HL.out, H1.out, cf_zero]
      exact hG1
    · have HR0 := Lib.hid hr0
      go_wp2_with fail
      refine (implFlC_is n p q HN.out (sm_of_ent HE.out.1) (sm_of_ent HE.out.2.1) S3.out _).mono ?_
      rintro e w2 ⟨rfl, rfl⟩
      go_wp2_with (at_builtin; refine app64 rfl _ _ rfl (w.heap.size + 1) wx (.slice ad done.length cap) done n rfl hG wx.heap.size rfl rfl (by omega) hz ?_; intro v' w1 hG1 hb1)
      go_step3
      refine ⟨rfl, ⟨done ++ [n], k, q, r, v', _, _, _, _, _, _, _, _, _, _, _, _, _, _, _, _, _, _, _, _, _, rfl, by rw [HL.out, H1.out]; simp, HE.out.2.1, by unfold Ent; omega, HR0.out, h2.out, by have := HK.out; simp; omega, T.trans (hb1.mono (Nat.le_succ _)), Nat.le_trans hz hb1.size, hG1⟩, ?_⟩
      have hl := hG1.len
      have := HK.out
      simp [muC, lenOf] at hl ⊢
      omega
end Go.Proofs.Ytejghidllochoaa
