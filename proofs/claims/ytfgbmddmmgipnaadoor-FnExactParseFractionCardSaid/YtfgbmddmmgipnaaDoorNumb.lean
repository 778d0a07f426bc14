/- spec.l01Number: numbers in decimal, read. -/
import Derived.Test.YtfgbmddmmgipnaaDoorLet
import Derived.Lib.ItoaNum
namespace Go.Proofs.YtfgbmddmmgipnaaDoor
open Go.ChangeShapes Go.WideShapes Go.ChangeAt Go.RowKit

def Dig (c : UInt8) : Prop := 48 ≤ c.toNat ∧ c.toNat ≤ 57
instance (c : UInt8) : Decidable (Dig c) := by unfold Dig; infer_instance
def valN (l : List UInt8) : Int := l.foldl (fun n c => n * 10 + ((c.toNat : Int) - 48)) 0
def numOk (l : List UInt8) : Bool := decide (l.length ≠ 0 ∧ l.length ≤ 10 ∧ ¬ (1 < l.length ∧ l.getD 0 0 = 48) ∧ ∀ c ∈ l, Dig c)
/-- The number that is written, or -1. -/
def numB (l : List UInt8) : Int := if numOk l = true then valN l else -1
theorem valN_snoc (l : List UInt8) (c : UInt8) : valN (l ++ [c]) = valN l * 10 + ((c.toNat : Int) - 48) := by simp [valN]
theorem take_snocB (l : List UInt8) (k : Nat) (hk : k < l.length) : l.take (k + 1) = l.take k ++ [l.getD k 0] := by
  rw [List.take_add_one]
  simp [List.getD, List.getElem?_eq_getElem hk]
theorem dig_getD {l : List UInt8} (h : ∀ c ∈ l, Dig c) (k : Nat) (hk : k < l.length) : Dig (l.getD k 0) := by
  rw [List.getD, List.getElem?_eq_getElem hk]
  exact h _ (List.getElem_mem hk)
/-- values stay small -/
theorem valN_bound {l : List UInt8} (h : ∀ c ∈ l, Dig c) : ∀ k, k ≤ l.length → 0 ≤ valN (l.take k) ∧ valN (l.take k) < 10 ^ k := by
  intro k
  induction k with
  | zero => intro _; simp [valN]
  | succ k ih =>
    intro hk
    obtain ⟨h1, h2⟩ := ih (by omega)
    obtain ⟨d1, d2⟩ := dig_getD h k (by omega)
    rw [take_snocB l k (by omega), valN_snoc]
    have : (10 : Int) ^ (k + 1) = 10 ^ k * 10 := Int.pow_succ 10 k
    omega
theorem dec_step (v : Int) (c : UInt8) (hv : 1 ≤ v) (hc : Dig c) : Lib.decDigits (v * 10 + ((c.toNat : Int) - 48)).toNat = Lib.decDigits v.toNat ++ [c] := by
  obtain ⟨d1, d2⟩ := hc
  rw [Lib.decDigits, dif_neg (by omega), show (v * 10 + ((c.toNat : Int) - 48)).toNat / 10 = v.toNat by omega, show (v * 10 + ((c.toNat : Int) - 48)).toNat % 10 = c.toNat - 48 by omega, show 48 + (c.toNat - 48) = c.toNat by omega]
  simp
theorem dec_first (c : UInt8) (hc : Dig c) : Lib.decDigits ((c.toNat : Int) - 48).toNat = [c] := by
  obtain ⟨d1, d2⟩ := hc
  rw [Lib.decDigits_one (by omega), show 48 + ((c.toNat : Int) - 48).toNat = c.toNat by omega]
  simp
theorem dec_take {l : List UInt8} (h : ∀ c ∈ l, Dig c) (h0 : l.getD 0 0 ≠ 48) : ∀ k, k < l.length → Lib.decDigits (valN (l.take (k + 1))).toNat = l.take (k + 1) ∧ 1 ≤ valN (l.take (k + 1)) := by
  intro k
  induction k with
  | zero =>
    intro hk
    have hd := dig_getD h 0 hk
    rw [take_snocB l 0 hk]
    have hne : (l.getD 0 0).toNat ≠ 48 := fun e => h0 (UInt8.toNat_inj.1 (by rw [e]; rfl))
    have e1 : valN (l.take 0 ++ [l.getD 0 0]) = ((l.getD 0 0).toNat : Int) - 48 := by rw [valN_snoc]; simp [valN]
    rw [e1, dec_first _ hd]
    obtain ⟨d1, d2⟩ := hd
    exact ⟨rfl, by omega⟩
  | succ k ih =>
    intro hk
    obtain ⟨e1, e2⟩ := ih (by omega)
    have hd := dig_getD h (k + 1) hk
    rw [take_snocB l (k + 1) hk, valN_snoc, dec_step _ _ e2 hd, e1]
    obtain ⟨d1, d2⟩ := hd
    exact ⟨rfl, by omega⟩
/-- What is read is written so. -/
theorem numB_inv {l : List UInt8} (h : 0 ≤ numB l) : l = Lib.decDigits (numB l).toNat ∧ numB l < 10000000000 := by
  unfold numB at *
  by_cases ho : numOk l = true
  · rw [if_pos ho] at h ⊢
    obtain ⟨n0, n1, n2, n3⟩ := of_decide_eq_true ho
    have hb := (valN_bound n3 l.length (Nat.le_refl _)).2
    rw [List.take_length] at hb
    have hp : (10 : Int) ^ l.length ≤ 10 ^ 10 := by
      have := Nat.pow_le_pow_right (show 0 < 10 by omega) n1
      exact_mod_cast this
    refine ⟨?_, by omega⟩
    by_cases h1 : l.getD 0 0 = 48
    · have hl : l.length = 1 := by
        rcases Nat.lt_or_ge 1 l.length with h | h
        · exact absurd ⟨h, h1⟩ n2
        · omega
      obtain ⟨c, rfl⟩ : ∃ c, l = [c] := by
        match l, hl with
        | [c], _ => exact ⟨c, rfl⟩
      have := dec_first c (n3 c (by simp))
      simpa [valN] using this.symm
    · have := (dec_take n3 h1 (l.length - 1) (by omega)).1
      rw [show l.length - 1 + 1 = l.length by omega, List.take_length] at this
      exact this.symm
  · rw [if_neg ho] at h
    omega
theorem dec_props : ∀ (n k : Nat), n < 10 ^ (k + 1) → (∀ c ∈ Lib.decDigits n, Dig c) ∧ (Lib.decDigits n).length ≤ k + 1 ∧ 0 < (Lib.decDigits n).length ∧ valN (Lib.decDigits n) = n ∧ (0 < n → (Lib.decDigits n).getD 0 0 ≠ 48) := by
  intro n k
  induction k generalizing n with
  | zero =>
    intro hn
    have hn' : n < 10 := by simpa using hn
    rw [Lib.decDigits_one hn']
    have ht : (UInt8.ofNat (48 + n)).toNat = 48 + n := by rw [UInt8.toNat_ofNat_of_lt' (by simp [UInt8.size]; omega)]
    refine ⟨fun c hc => ?_, by simp, by simp, ?_, fun h0 e => ?_⟩
    · simp only [List.mem_singleton] at hc; subst hc; unfold Dig; rw [ht]; omega
    · simp only [valN, List.foldl_cons, List.foldl_nil, ht]; omega
    · have := congrArg UInt8.toNat e
      simp only [List.getD_cons_zero] at this
      rw [ht] at this
      have h48 : (48 : UInt8).toNat = 48 := rfl
      omega
  | succ k ih =>
    intro hn
    by_cases h10 : n < 10
    · obtain ⟨a, b, c, d, e⟩ := ih n (Nat.lt_of_lt_of_le h10 (by have := Nat.pow_le_pow_right (show 0 < 10 by omega) (show 1 ≤ k + 1 by omega); simpa using this))
      exact ⟨a, by omega, c, d, e⟩
    · obtain ⟨a, b, c, d, e⟩ := ih (n / 10) (by rw [Nat.div_lt_iff_lt_mul (by omega)]; rw [Nat.pow_succ] at hn; exact hn)
      have hd : Lib.decDigits n = Lib.decDigits (n / 10) ++ [UInt8.ofNat (48 + n % 10)] := by rw [Lib.decDigits, dif_neg h10]
      have ht : (UInt8.ofNat (48 + n % 10)).toNat = 48 + n % 10 := by rw [UInt8.toNat_ofNat_of_lt' (by simp [UInt8.size]; omega)]
      rw [hd]
      refine ⟨fun x hx => ?_, by simp; omega, by simp, ?_, fun _ => ?_⟩
      · rcases List.mem_append.1 hx with hx | hx
        · exact a x hx
        · simp only [List.mem_singleton] at hx; subst hx; unfold Dig; rw [ht]; omega
      · rw [valN_snoc, d, ht]; push_cast; omega
      · have := e (by omega)
        rw [List.getD, List.getElem?_append_left c]
        exact this
theorem numB_dec (n : Nat) (h : n < 10000000000) : numB (Lib.decDigits n) = n := by
  obtain ⟨a, b, c, d, e⟩ := dec_props n 9 (by simpa using h)
  have ho : numOk (Lib.decDigits n) = true := by
    refine decide_eq_true ⟨by omega, by omega, ?_, a⟩
    rintro ⟨h1, h2⟩
    rcases Nat.eq_zero_or_pos n with h0 | h0
    · subst h0
      rw [Lib.decDigits_one (by omega)] at h1
      simp at h1
    · exact e h0 h2
  unfold numB
  rw [if_pos ho, d]
theorem valN_small {l : List UInt8} (h : ∀ c ∈ l, Dig c) (hn : l.length ≤ 9) : 0 ≤ valN l ∧ valN l ≤ 1000000000 := by
  have hb := valN_bound h l.length (Nat.le_refl _)
  rw [List.take_length] at hb
  have hp : (10 : Int) ^ l.length ≤ 10 ^ 9 := by
    have := Nat.pow_le_pow_right (show 0 < 10 by omega) hn
    exact_mod_cast this
  omega
theorem idx_atN (s : ByteArray) (k : Nat) (hk : k < s.size) : ∃ x : Int, (∀ w, (Instr.index 9 (.string s) (.int .i64 (k : Int))).run Tryd.prog w = .ok (.int .u8 x) w) ∧ x = ((s.data.toList.getD k 0).toNat : Int) := by
  have hl : k < s.data.toList.length := by rw [str_len]; exact hk
  refine ⟨_, idx_str s k hk, ?_⟩
  rw [List.getD, List.getElem?_eq_getElem hl, Option.getD_some, str_at s k hk hl]
theorem numB_not {l : List UInt8} (h : ¬ (l.length ≠ 0 ∧ l.length ≤ 10 ∧ ¬ (1 < l.length ∧ l.getD 0 0 = 48) ∧ ∀ c ∈ l, Dig c)) : numB l = -1 := by
  unfold numB numOk
  rw [decide_eq_false h]
  rfl
theorem numB_yes {l : List UInt8} (h : l.length ≠ 0 ∧ l.length ≤ 10 ∧ ¬ (1 < l.length ∧ l.getD 0 0 = 48) ∧ ∀ c ∈ l, Dig c) : numB l = valN l := by
  unfold numB numOk
  rw [decide_eq_true h]
  rfl
set_option maxHeartbeats 1000000 in
theorem num_out (s : ByteArray) (h : s.size = 0 ∨ 10 < s.size) (hm : s.size ≤ 1000000000) (w : World) : Calls Tryd.prog 64 #[.string s] w fun e w' => e = .returned (.int .i64 (-1)) ∧ w' = w := by
  go_enter Tryd.func64, Tryd.ntmps64
  rcases h with h | h
  · go_wp2
    go_ret
    exact ⟨rfl, rfl⟩
  · have h0 : ¬ (s.size = 0) := by omega
    have h1 : (10 : Int) < (s.size : Int) := by omega
    go_wp2
    go_ret
    exact ⟨rfl, rfl⟩
set_option maxHeartbeats 1000000 in
theorem num_zero (s : ByteArray) (h0 : ¬ s.size = 0) (h1 : ¬ (10 : Int) < (s.size : Int)) (h2 : (1 : Int) < (s.size : Int)) (h3 : s.data.toList.getD 0 0 = 48) (w : World) : Calls Tryd.prog 64 #[.string s] w fun e w' => e = .returned (.int .i64 (-1)) ∧ w' = w := by
  obtain ⟨x, hix, hx⟩ := idx_atN s 0 (by omega)
  rw [h3] at hx
  obtain rfl : x = 48 := hx
  have hix1 : ∀ w, (Instr.index 9 (.string s) (.int .i64 0)).run Tryd.prog w = .ok (.int .u8 48) w := hix
  clear h3 hix
  go_enter Tryd.func64, Tryd.ntmps64
  go_wp2
  go_ret
  exact ⟨rfl, rfl⟩
set_option maxHeartbeats 2000000 in
theorem num_loop (s : ByteArray) (h0 : ¬ s.size = 0) (h1 : ¬ (10 : Int) < (s.size : Int)) (h2 : ¬ ((1 : Int) < (s.size : Int) ∧ s.data.toList.getD 0 0 = 48)) (w : World) : Calls Tryd.prog 64 #[.string s] w fun e w' => e = .returned (.int .i64 (numB s.data.toList)) ∧ w' = w := by
  obtain ⟨x0, hix0, hx0⟩ := idx_atN s 0 (by omega)
  have h3 : (1 : Int) < (s.size : Int) → (x0 == 48) = false := fun h => by
    have : ¬ s.data.toList.getD 0 0 = 48 := fun e => h2 ⟨h, e⟩
    rw [hx0]
    exact byte_ne this
  obtain ⟨l, hl⟩ : ∃ l, s.data.toList = l := ⟨_, rfl⟩
  have hll : l.length = s.size := by rw [← hl, str_len]
  have HIX := Lib.hid (fun k hk => idx_atN s k hk)
  rw [hl] at HIX h2
  rw [hl]
  have HNO := Lib.hid (fun k (hk : k < s.size) (hd : ¬ Dig (l.getD k 0)) => numB_not (l := l) (fun h => hd (dig_getD h.2.2.2 k (by omega))))
  have HYE := Lib.hid (fun (hd : ∀ c ∈ l, Dig c) => numB_yes (l := l) ⟨by omega, by omega, fun h => h2 ⟨by omega, h.2⟩, hd⟩)
  have HLL := Lib.hid hll
  have hix1 : ∀ w, (Instr.index 9 (.string s) (.int .i64 0)).run Tryd.prog w = .ok (.int .u8 x0) w := hix0
  clear hl hll h2 hx0 hix0
  go_enter Tryd.func64, Tryd.ntmps64
  by_cases hone : (1 : Int) < (s.size : Int)
  · have h4 := h3 hone
    clear h3
    go_wp2
    go_loop [3, 4] (fun v i => ∃ k : Nat, k ≤ s.size ∧ v = (.int .i64 (valN (l.take k))) ∧ i = (.int .i64 k) ∧ Hid (∀ c ∈ l.take k, Dig c)) (fun _ i => s.size - (intOf i).toNat)
    case atStart => exact ⟨0, Nat.zero_le _, by simp [valN], rfl, Lib.hid (by simp)⟩
    case round =>
      obtain ⟨k, hk, rfl, rfl, HD⟩ := hrel
      by_cases hlt : k < s.size
      · obtain ⟨x, hix, hx⟩ := HIX.out k hlt
        have hlt' : (k : Int) < (s.size : Int) := by omega
        obtain ⟨c, hc⟩ : ∃ c, l.getD k 0 = c := ⟨_, rfl⟩
        have hkl : k < l.length := by rw [HLL.out]; exact hlt
        rw [hc] at hx
        by_cases hd : Dig c
        · obtain ⟨b0, b1⟩ := valN_small HD.out (by rw [List.length_take]; omega)
          have hst := take_snocB l k hkl
          rw [hc] at hst
          obtain ⟨v, hv⟩ : ∃ v, valN (l.take k) = v := ⟨_, rfl⟩
          have HS := Lib.hid (show valN (l.take (k + 1)) = v * 10 + (x - 48) by rw [hst, valN_snoc, hv, hx])
          have HD2 := Lib.hid (show ∀ e ∈ l.take (k + 1), Dig e by
            rw [hst]
            intro e he
            rcases List.mem_append.1 he with he | he
            · exact HD.out e he
            · simp only [List.mem_singleton] at he; subst he; exact hd)
          rw [hv] at b0 b1 ⊢
          obtain ⟨d1, d2⟩ := hd
          have hx1 : ¬ x < 48 := by omega
          have hx2 : ¬ (57 : Int) < x := by omega
          obtain ⟨t, ht⟩ : ∃ t, v * 10 = t := ⟨_, rfl⟩
          obtain ⟨y, hy⟩ : ∃ y, x - 48 = y := ⟨_, rfl⟩
          obtain ⟨z, hz⟩ : ∃ z, t + y = z := ⟨_, rfl⟩
          have hwa : IntKind.i64.wrap (v * 10) = t := by rw [ht]; exact IntWalk.i64_in _ (by omega)
          have hwb : IntKind.u8.wrap (x - 48) = y := by rw [hy]; simp [IntKind.wrap, IntKind.bits, IntKind.signed]; omega
          have hwc : IntKind.i64.wrap y = y := IntWalk.i64_in _ (by omega)
          have hwd : IntKind.i64.wrap (t + y) = z := by rw [hz]; exact IntWalk.i64_in _ (by omega)
          have HZ := Lib.hid (show valN (l.take (k + 1)) = z by rw [HS.out, ht, hy, hz])
          clear HS hst hv hx hc ht hy hz d1 d2 b0 b1 HD
          go_wp2
          go_round
          case rel => exact ⟨k + 1, by omega, by rw [HZ.out], by go_num, HD2⟩
          case measure => simp [intOf]; omega
        · have HF := Lib.hid (HNO.out k hlt (by rw [hc]; exact hd))
          unfold Dig at hd
          rcases (show x < 48 ∨ (¬ x < 48 ∧ (57 : Int) < x) by omega) with h5 | ⟨h5, h6⟩
          · clear hx hc hd
            go_wp2
            go_ret
            exact ⟨by rw [HF.out]; rfl, rfl⟩
          · clear hx hc hd
            go_wp2
            go_ret
            exact ⟨by rw [HF.out]; rfl, rfl⟩
      · have hlt' : ¬ (k : Int) < (s.size : Int) := by omega
        have HE := Lib.hid (show l.take k = l from List.take_of_length_le (by rw [HLL.out]; omega))
        have HF := Lib.hid (HYE.out (by have := HD.out; rwa [HE.out] at this))
        go_wp2
        go_ret
        exact ⟨by rw [HF.out, HE.out]; rfl, rfl⟩
  · clear h3
    go_wp2
    go_loop [3, 4] (fun v i => ∃ k : Nat, k ≤ s.size ∧ v = (.int .i64 (valN (l.take k))) ∧ i = (.int .i64 k) ∧ Hid (∀ c ∈ l.take k, Dig c)) (fun _ i => s.size - (intOf i).toNat)
    case atStart => exact ⟨0, Nat.zero_le _, by simp [valN], rfl, Lib.hid (by simp)⟩
    case round =>
      obtain ⟨k, hk, rfl, rfl, HD⟩ := hrel
      by_cases hlt : k < s.size
      · obtain ⟨x, hix, hx⟩ := HIX.out k hlt
        have hlt' : (k : Int) < (s.size : Int) := by omega
        obtain ⟨c, hc⟩ : ∃ c, l.getD k 0 = c := ⟨_, rfl⟩
        have hkl : k < l.length := by rw [HLL.out]; exact hlt
        rw [hc] at hx
        by_cases hd : Dig c
        · obtain ⟨b0, b1⟩ := valN_small HD.out (by rw [List.length_take]; omega)
          have hst := take_snocB l k hkl
          rw [hc] at hst
          obtain ⟨v, hv⟩ : ∃ v, valN (l.take k) = v := ⟨_, rfl⟩
          have HS := Lib.hid (show valN (l.take (k + 1)) = v * 10 + (x - 48) by rw [hst, valN_snoc, hv, hx])
          have HD2 := Lib.hid (show ∀ e ∈ l.take (k + 1), Dig e by
            rw [hst]
            intro e he
            rcases List.mem_append.1 he with he | he
            · exact HD.out e he
            · simp only [List.mem_singleton] at he; subst he; exact hd)
          rw [hv] at b0 b1 ⊢
          obtain ⟨d1, d2⟩ := hd
          have hx1 : ¬ x < 48 := by omega
          have hx2 : ¬ (57 : Int) < x := by omega
          obtain ⟨t, ht⟩ : ∃ t, v * 10 = t := ⟨_, rfl⟩
          obtain ⟨y, hy⟩ : ∃ y, x - 48 = y := ⟨_, rfl⟩
          obtain ⟨z, hz⟩ : ∃ z, t + y = z := ⟨_, rfl⟩
          have hwa : IntKind.i64.wrap (v * 10) = t := by rw [ht]; exact IntWalk.i64_in _ (by omega)
          have hwb : IntKind.u8.wrap (x - 48) = y := by rw [hy]; simp [IntKind.wrap, IntKind.bits, IntKind.signed]; omega
          have hwc : IntKind.i64.wrap y = y := IntWalk.i64_in _ (by omega)
          have hwd : IntKind.i64.wrap (t + y) = z := by rw [hz]; exact IntWalk.i64_in _ (by omega)
          have HZ := Lib.hid (show valN (l.take (k + 1)) = z by rw [HS.out, ht, hy, hz])
          clear HS hst hv hx hc ht hy hz d1 d2 b0 b1 HD
          go_wp2
          go_round
          case rel => exact ⟨k + 1, by omega, by rw [HZ.out], by go_num, HD2⟩
          case measure => simp [intOf]; omega
        · have HF := Lib.hid (HNO.out k hlt (by rw [hc]; exact hd))
          unfold Dig at hd
          rcases (show x < 48 ∨ (¬ x < 48 ∧ (57 : Int) < x) by omega) with h5 | ⟨h5, h6⟩
          · clear hx hc hd
            go_wp2
            go_ret
            exact ⟨by rw [HF.out]; rfl, rfl⟩
          · clear hx hc hd
            go_wp2
            go_ret
            exact ⟨by rw [HF.out]; rfl, rfl⟩
      · have hlt' : ¬ (k : Int) < (s.size : Int) := by omega
        have HE := Lib.hid (show l.take k = l from List.take_of_length_le (by rw [HLL.out]; omega))
        have HF := Lib.hid (HYE.out (by have := HD.out; rwa [HE.out] at this))
        go_wp2
        go_ret
        exact ⟨by rw [HF.out, HE.out]; rfl, rfl⟩
theorem num_any (s : ByteArray) (hm : s.size ≤ 1000000000) (w : World) : Calls Tryd.prog 64 #[.string s] w fun e w' => e = .returned (.int .i64 (numB s.data.toList)) ∧ w' = w := by
  have hl : s.data.toList.length = s.size := str_len s
  by_cases h0 : s.size = 0 ∨ 10 < s.size
  · rw [numB_not (by omega)]
    exact num_out s h0 hm w
  · by_cases h2 : (1 : Int) < (s.size : Int) ∧ s.data.toList.getD 0 0 = 48
    · rw [numB_not (fun h => h.2.2.1 ⟨by omega, h2.2⟩)]
      exact num_zero s (by omega) (by omega) h2.1 h2.2 w
    · exact num_loop s (by omega) (by omega) h2 w
end Go.Proofs.YtfgbmddmmgipnaaDoor
