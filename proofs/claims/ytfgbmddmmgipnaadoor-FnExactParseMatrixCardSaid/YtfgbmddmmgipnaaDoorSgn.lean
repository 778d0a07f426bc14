/- spec.l01Signed: contract. -/
import Derived.Test.YtfgbmddmmgipnaaDoorNumb
namespace Go.Proofs.YtfgbmddmmgipnaaDoor
open Go.ChangeShapes Go.WideShapes Go.ChangeAt Go.RowKit

/-- What is read with a sign: the number that is written just so. -/
def Sgn (l : List UInt8) (n : Int) (ok : Bool) : Prop := (ok = true ∧ l = Lib.itoa n ∧ n.natAbs < 10000000000) ∨ (ok = false ∧ ∀ m : Int, m.natAbs < 10000000000 → l ≠ Lib.itoa m)
theorem itoa_head (n : Int) : (Lib.itoa n).getD 0 0 = 45 ↔ n < 0 := by
  unfold Lib.itoa
  by_cases h : n < 0
  · rw [if_pos h]; simp [h]
  · rw [if_neg h]
    constructor
    · intro e
      exfalso
      obtain ⟨k, hk⟩ : ∃ k, n.toNat < 10 ^ (k + 1) := ⟨n.toNat, Nat.lt_of_lt_of_le (Nat.lt_pow_self (by omega)) (Nat.pow_le_pow_right (by omega) (by omega))⟩
      obtain ⟨a, _, c, _, _⟩ := dec_props n.toNat k hk
      have := dig_getD a 0 c
      rw [e] at this
      exact absurd this (by decide)
    · intro h'; omega
theorem sgn_plus {l : List UInt8} (h : l.getD 0 0 ≠ 45) : Sgn l (numB l) (decide (0 ≤ numB l)) := by
  by_cases h0 : 0 ≤ numB l
  · rw [decide_eq_true h0]
    obtain ⟨h1, h2⟩ := numB_inv h0
    refine .inl ⟨rfl, ?_, by omega⟩
    rw [Lib.itoa, if_neg (by omega)]
    exact h1
  · rw [decide_eq_false h0]
    refine .inr ⟨rfl, fun m hm e => ?_⟩
    have hm0 : ¬ m < 0 := fun hm0 => h (by rw [e]; exact (itoa_head m).2 hm0)
    rw [Lib.itoa, if_neg hm0] at e
    rw [e, numB_dec _ (by omega)] at h0
    omega
theorem sgn_minus {l : List UInt8} (h : l.getD 0 0 = 45) (h1 : 0 < l.length) : Sgn l (-numB (l.drop 1)) (decide (0 < numB (l.drop 1))) := by
  have hl : l = 45 :: l.drop 1 := by
    cases l with
    | nil => simp at h1
    | cons c r => simp at h; rw [h]; rfl
  by_cases h0 : 0 < numB (l.drop 1)
  · rw [decide_eq_true h0]
    obtain ⟨h1, h2⟩ := numB_inv (Int.le_of_lt h0)
    refine .inl ⟨rfl, ?_, by omega⟩
    rw [Lib.itoa, if_pos (by omega), show (-numB (l.drop 1)).natAbs = (numB (l.drop 1)).toNat by omega, ← h1]
    exact hl
  · rw [decide_eq_false h0]
    refine .inr ⟨rfl, fun m hm e => ?_⟩
    have hm0 : m < 0 := (itoa_head m).1 (by rw [← e]; exact h)
    rw [Lib.itoa, if_pos hm0] at e
    rw [e, List.drop_one, List.tail_cons, numB_dec _ hm] at h0
    omega
theorem numB_small (l : List UInt8) : (numB l).natAbs < 10000000000 := by
  by_cases h : 0 ≤ numB l
  · have := (numB_inv h).2; omega
  · have : numB l = -1 := by
      unfold numB at *
      by_cases ho : numOk l = true
      · rw [if_pos ho] at h ⊢
        obtain ⟨_, _, _, n3⟩ := of_decide_eq_true ho
        have := (valN_bound n3 l.length (Nat.le_refl _)).1
        rw [List.take_length] at this
        omega
      · rw [if_neg ho]
    omega
set_option maxHeartbeats 1000000 in
theorem signed_plus (s : ByteArray) (hm : s.size ≤ 1000000000) (h : s.data.toList.getD 0 0 ≠ 45) (w : World) : Calls Tryd.prog 46 #[.string s] w fun e w' => e = .returned (.tuple #[(.int .i64 (numB s.data.toList)), .bool (decide (0 ≤ numB s.data.toList))]) ∧ w' = w := by
  have HN := Lib.hid (num_any s hm)
  generalize hl : s.data.toList = l at *
  obtain ⟨n, hn⟩ : ∃ n, numB l = n := ⟨_, rfl⟩
  rw [hn] at HN ⊢
  by_cases h0 : s.size = 0
  · clear hl h hn
    go_enter Tryd.func46, Tryd.ntmps46
    go_wp2_with fail
    refine (HN.out _).mono ?_
    rintro e w1 ⟨rfl, rfl⟩
    go_wp2
    go_ret2
    exact ⟨rfl, rfl⟩
  · obtain ⟨x, hix, hx⟩ := idx_atN s 0 (by omega)
    have hix1 : ∀ w, (Instr.index 9 (.string s) (.int .i64 0)).run Tryd.prog w = .ok (.int .u8 x) w := hix
    have h1 : (0 : Int) < (s.size : Int) := by omega
    have h2 : (x == 45) = false := by rw [hx, hl]; exact byte_ne h
    clear hl h hn hix hx
    go_enter Tryd.func46, Tryd.ntmps46
    go_wp2_with fail
    refine (HN.out _).mono ?_
    rintro e w1 ⟨rfl, rfl⟩
    go_wp2
    go_ret2
    exact ⟨rfl, rfl⟩
set_option maxHeartbeats 1000000 in
theorem signed_minus (s : ByteArray) (hm : s.size ≤ 1000000000) (h1 : 0 < s.size) (h : s.data.toList.getD 0 0 = 45) (w : World) : Calls Tryd.prog 46 #[.string s] w fun e w' => e = .returned (.tuple #[(.int .i64 (-numB (s.data.toList.drop 1))), .bool (decide (0 < numB (s.data.toList.drop 1)))]) ∧ w' = w := by
  have hd : (s.extract 1 s.size).data.toList = s.data.toList.drop 1 := by
    simp [ByteArray.data_extract, Array.toList_extract, List.extract_eq_take_drop]
    exact List.take_of_length_le (by simp)
  have HN := Lib.hid (num_any (s.extract 1 s.size) (by rw [ByteArray.size_extract]; omega))
  rw [hd] at HN
  obtain ⟨x, hix, hx⟩ := idx_atN s 0 (by omega)
  have hix1 : ∀ w, (Instr.index 9 (.string s) (.int .i64 0)).run Tryd.prog w = .ok (.int .u8 x) w := hix
  have h1' : (0 : Int) < (s.size : Int) := by omega
  have h2 : (x == 45) = true := by rw [hx, h]; rfl
  have hb := numB_small (s.data.toList.drop 1)
  obtain ⟨n, hn⟩ : ∃ n, numB (s.data.toList.drop 1) = n := ⟨_, rfl⟩
  rw [hn] at HN hb ⊢
  have hw : IntKind.i64.wrap (-n) = -n := IntWalk.i64_in _ (by omega)
  clear hix hx hd h hn
  go_enter Tryd.func46, Tryd.ntmps46
  go_wp2_with fail
  refine (HN.out _).mono ?_
  rintro e w1 ⟨rfl, rfl⟩
  go_wp2
  go_ret2
  exact ⟨rfl, rfl⟩
theorem signed_any (s : ByteArray) (hm : s.size ≤ 1000000000) (w : World) : Calls Tryd.prog 46 #[.string s] w fun e w' => ∃ n ok, e = .returned (.tuple #[(.int .i64 n), .bool ok]) ∧ w' = w ∧ Hid (Sgn s.data.toList n ok ∧ n.natAbs < 10000000000) := by
  have hl := str_len s
  by_cases h : s.data.toList.getD 0 0 = 45
  · have h1 : 0 < s.size := by
      rcases Nat.eq_zero_or_pos s.size with h0 | h0
      · have : s.data.toList = [] := List.eq_nil_of_length_eq_zero (by omega)
        rw [this] at h
        exact absurd h (by decide)
      · exact h0
    refine (signed_minus s hm h1 h w).mono ?_
    rintro e w' ⟨rfl, rfl⟩
    exact ⟨_, _, rfl, rfl, Lib.hid ⟨sgn_minus h (by omega), by have := numB_small (s.data.toList.drop 1); omega⟩⟩
  · refine (signed_plus s hm h w).mono ?_
    rintro e w' ⟨rfl, rfl⟩
    exact ⟨_, _, rfl, rfl, Lib.hid ⟨sgn_plus h, numB_small _⟩⟩
end Go.Proofs.YtfgbmddmmgipnaaDoor
