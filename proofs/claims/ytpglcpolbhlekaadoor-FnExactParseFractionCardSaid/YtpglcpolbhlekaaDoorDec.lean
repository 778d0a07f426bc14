/- spec.l01Dec: contract. -/
import Derived.Test.YtpglcpolbhlekaaDoorBase
import Derived.Test.YtpglcpolbhlekaaDoorShg
import Derived.Laws.IdiomStrings
import Derived.Lib.ItoaLen
namespace Go.Proofs.YtpglcpolbhlekaaDoor
open Go.ChangeShapes Go.WideShapes Go.ChangeAt Go.RowKit

theorem conv1 (x : Int) (c : UInt8) (hx : x = (c.toNat : Int)) (W : World) (g : Nat) (h : W.cell? ⟨g, 0, none⟩ = some (.int .u8 x)) : (convert 53 9 (.slice (some ⟨g, 0, none⟩) 1 1)).run Tryd.prog W = .ok (.string ⟨#[c]⟩) W := by
  have := run_convert_bytes_back (P := Tryd.prog) W 53 9 5 ⟨g, 0, none⟩ 1 [c] Tryd.underlying53 Tryd.underlying5 Tryd.underlying9 (fun j hj => by
    obtain rfl : j = 0 := by simp at hj; omega
    rw [show (Addr.add ⟨g, 0, none⟩ 0 : Addr) = ⟨g, 0, none⟩ from rfl, h, hx]
    rfl)
  exact this
theorem dgt (n : Int) (h0 : 0 ≤ n) (h1 : n < 10) : 48 + n = ((UInt8.ofNat (48 + n.toNat)).toNat : Int) := by
  rw [UInt8.toNat_ofNat_of_lt' (by simp [UInt8.size]; omega)]
  omega
theorem itoa_dgt (n : Int) (h0 : 10 ≤ n) : Lib.decDigits n.toNat = Lib.decDigits (n / 10).toNat ++ [UInt8.ofNat (48 + (n % 10).toNat)] := by
  rw [Lib.decDigits, dif_neg (by omega), show n.toNat / 10 = (n / 10).toNat by omega, show n.toNat % 10 = (n % 10).toNat by omega]
theorem dec_len (n : Int) (h0 : 0 ≤ n) (h1 : n ≤ 9223372036854775807) : (Lib.decDigits n.toNat).length ≤ 21 := by
  have := Lib.itoa_length_le n (by omega) h1
  unfold Lib.itoa at this
  rw [if_neg (by omega)] at this
  exact this
set_option maxRecDepth 100000 in
set_option maxHeartbeats 1000000 in
theorem dec_one (n : Int) (h0 : 0 ≤ n) (h1 : n < 10) (w : World) : Calls Tryd.prog 52 #[(.int .i64 n)] w fun e w' => e = .returned (.string ⟨(Lib.decDigits n.toNat).toArray⟩) ∧ Below w.heap.size w w' := by
  obtain ⟨c, hc⟩ : ∃ c : UInt8, UInt8.ofNat (48 + n.toNat) = c := ⟨_, rfl⟩
  have hd := Lib.hid (show Lib.decDigits n.toNat = [c] by rw [Lib.decDigits_one (by omega), hc])
  have hn0 : ¬ n < 0 := by omega
  have hcv := conv1 (48 + n) c (by rw [← hc]; exact dgt n h0 h1) (w.alloc (.cells #[.int .u8 (48 + n)] 5)) w.heap.size (Box.new w [.int .u8 (48 + n)] 5).one.2.1
  clear hc
  go_enter Tryd.func52, Tryd.ntmps52
  go_wp2
  go_ret
  exact ⟨by rw [hd.out]; rfl, by repeat (first | with_reducible exact own_refl _ | with_reducible assumption | with_reducible apply own_alloc | with_reducible apply own_drewN | with_reducible apply own_drew | ((with_reducible refine own_setCell ?_ ?_ _); rotate_left; focus (first | (simp; done) | (simp; omega))) | (with_reducible (refine own_trans ?_ (by assumption))))⟩
set_option maxRecDepth 100000 in
set_option maxHeartbeats 2000000 in
theorem dec_more (n : Int) (h0 : 10 ≤ n) (h1 : n ≤ 1000000000000) (ih : ∀ w : World, Calls Tryd.prog 52 #[(.int .i64 (n / 10))] w fun e w' => e = .returned (.string ⟨(Lib.decDigits (n / 10).toNat).toArray⟩) ∧ Below w.heap.size w w') (w : World) : Calls Tryd.prog 52 #[(.int .i64 n)] w fun e w' => e = .returned (.string ⟨(Lib.decDigits n.toNat).toArray⟩) ∧ Below w.heap.size w w' := by
  have HI := Lib.hid ih
  have hn0 : ¬ n < 0 := by omega
  have hn1 : ¬ n < 10 := by omega
  obtain ⟨q, hq⟩ : ∃ q, n / 10 = q := ⟨_, rfl⟩
  have e1 : n.tdiv 10 = q := by rw [← hq]; exact Int.tdiv_eq_ediv_of_nonneg (by omega)
  have hq0 : 0 ≤ q := by omega
  have hq1 : q ≤ 1000000000000 := by omega
  have hw1 : IntKind.i64.wrap q = q := IntWalk.i64_in _ (by omega)
  obtain ⟨r, hr⟩ : ∃ r, n % 10 = r := ⟨_, rfl⟩
  have e2 : n.tmod 10 = r := by rw [Int.tmod_eq_emod_of_nonneg (by omega), hr]
  have hr0 : 0 ≤ r := by omega
  have hr9 : r < 10 := by omega
  obtain ⟨c, hc⟩ : ∃ c : UInt8, UInt8.ofNat (48 + r.toNat) = c := ⟨_, rfl⟩
  obtain ⟨S, hS⟩ : ∃ S : ByteArray, (⟨(Lib.decDigits (n / 10).toNat).toArray⟩ : ByteArray) = S := ⟨_, rfl⟩
  have hSs : S.size ≤ 21 := by
    rw [← hS, Lib.size_eq]
    exact dec_len _ (by omega) (by omega)
  have HD := Lib.hid (show S ++ (⟨#[c]⟩ : ByteArray) = ⟨(Lib.decDigits n.toNat).toArray⟩ by
    rw [itoa_dgt n h0, hr, ← hS, hc]
    apply ByteArray.ext
    rw [ByteArray.data_append]
    simp)
  have hcv := conv1 (48 + r) c (by rw [← hc]; exact dgt r hr0 hr9)
  rw [hq] at HI hS
  rw [hS] at HI
  have hw2 : IntKind.i64.wrap (48 + r) = 48 + r := IntWalk.i64_in _ (by omega)
  have hw3 : IntKind.i64.wrap r = r := IntWalk.i64_in _ (by omega)
  have hw4 : IntKind.u8.wrap (48 + r) = 48 + r := by simp [IntKind.wrap, IntKind.bits, IntKind.signed]; omega
  clear ih hr hS hq hc
  go_enter Tryd.func52, Tryd.ntmps52
  go_upto_region 5 with fail
  go_cut [2] (fun s wx => s = .string ⟨(Lib.decDigits n.toNat).toArray⟩ ∧ Below w.heap.size w wx)
  case first =>
    go_region_with (first
      | (go_at_call 52; refine (HI.out _).mono ?_; rintro e w2 ⟨rfl, hb2⟩; have T2 : Below w.heap.size w w2 := (by first | exact own_trans (own_refl w) hb2 | exact own_trans (own_drew (own_refl w)) hb2 | exact own_trans (own_alloc (own_refl w) _) hb2 | exact own_trans (own_drew (own_alloc (own_refl w) _)) hb2); try (have hcc := (Box.below (by first | exact Box.new _ _ _ | exact Box.drew (Box.new _ _ _)) hb2).one.2.1)))
    all_goals
      go_wp2_with fail
      go_meet
      exact ⟨by rw [HD.out], by repeat (first | with_reducible exact own_refl _ | with_reducible assumption | with_reducible apply own_alloc | with_reducible apply own_drewN | with_reducible apply own_drew | ((with_reducible refine own_setCell ?_ ?_ _); rotate_left; focus (first | (simp; done) | (simp; omega))) | (with_reducible (refine own_trans ?_ (by assumption))))⟩
  case rest =>
    obtain ⟨rfl, T⟩ := hcut
    go_wp2
    go_ret
    exact ⟨rfl, T⟩
theorem dec_any : ∀ (k : Nat) (n : Int), 0 ≤ n → n ≤ 1000000000000 → n.toNat ≤ k → ∀ w : World, Calls Tryd.prog 52 #[(.int .i64 n)] w fun e w' => e = .returned (.string ⟨(Lib.decDigits n.toNat).toArray⟩) ∧ Below w.heap.size w w' := by
  intro k
  induction k with
  | zero =>
    intro n h0 h1 hk w
    exact dec_one n h0 (by omega) w
  | succ k ih =>
    intro n h0 h1 hk w
    rcases Int.lt_or_le n 10 with h | h
    · exact dec_one n h0 h w
    · exact dec_more n h h1 (fun w => ih (n / 10) (by omega) (by omega) (by omega) w) w
set_option maxRecDepth 100000 in
set_option maxHeartbeats 1000000 in
theorem decS_any (n : Int) (h0 : -1000000000 ≤ n) (h1 : n ≤ 1000000000) (w : World) : Calls Tryd.prog 52 #[(.int .i64 n)] w fun e w' => e = .returned (.string ⟨(Lib.itoa n).toArray⟩) ∧ Below w.heap.size w w' := by
  rcases Int.lt_or_le n 0 with h | h
  · obtain ⟨z, hz⟩ : ∃ z, -n = z := ⟨_, rfl⟩
    have HI := Lib.hid (fun w => dec_any z.toNat z (by omega) (by omega) (Nat.le_refl _) w)
    obtain ⟨S, hS⟩ : ∃ S : ByteArray, (⟨(Lib.decDigits z.toNat).toArray⟩ : ByteArray) = S := ⟨_, rfl⟩
    have hSs : S.size ≤ 21 := by
      rw [← hS, Lib.size_eq]
      exact dec_len _ (by omega) (by omega)
    have HD := Lib.hid (show (⟨#[45]⟩ : ByteArray) ++ S = ⟨(Lib.itoa n).toArray⟩ by
      rw [Lib.itoa, if_pos h, ← hS, show n.natAbs = z.toNat by omega]
      apply ByteArray.ext
      rw [ByteArray.data_append]
      simp)
    have hz0 : 0 ≤ z ∧ z ≤ 1000000000 := by omega
    rw [hS] at HI
    clear hS
    go_enter Tryd.func52, Tryd.ntmps52
    go_wp2_with fail
    refine (HI.out _).mono ?_
    rintro e w1 ⟨rfl, hb1⟩
    go_wp2
    go_ret
    exact ⟨by rw [← HD.out]; rfl, by repeat (first | with_reducible exact own_refl _ | with_reducible assumption | with_reducible apply own_alloc | with_reducible apply own_drewN | with_reducible apply own_drew | ((with_reducible refine own_setCell ?_ ?_ _); rotate_left; focus (first | (simp; done) | (simp; omega))) | (with_reducible (refine own_trans ?_ (by assumption))))⟩
  · have := dec_any n.toNat n h (by omega) (Nat.le_refl _) w
    rw [Lib.itoa, if_neg (by omega)]
    exact this
end Go.Proofs.YtpglcpolbhlekaaDoor
