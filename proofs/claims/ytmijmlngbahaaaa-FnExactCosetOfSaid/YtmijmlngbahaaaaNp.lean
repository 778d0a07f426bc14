/- NormalPair: contracts of both sides. -/
import Derived.Test.YtmijmlngbahaaaaNorS
import Derived.OwnWalk
namespace Go.Proofs.Ytmijmlngbahaaaa
open Go.ChangeShapes Go.WideShapes Go.ChangeAt Go.RowKit

theorem isLevel_is (r : Bool) (n : Int) (hr : inR n 1 60 = r) (w : World) : Calls Try.prog 43 #[(.int .i64 n)] w fun e w' => e = .returned (.bool r) ∧ w = w' := by
  subst hr
  by_cases a : 1 ≤ n
  · by_cases b : n ≤ 60
    · go_enter Try.func43, Try.ntmps43
      go_wp2
      go_ret
      exact ⟨by simp [inR, a, b], rfl⟩
    · go_enter Try.func43, Try.ntmps43
      go_wp2
      go_ret
      exact ⟨by simp [inR, a, b], rfl⟩
  · go_enter Try.func43, Try.ntmps43
    go_wp2
    go_ret
    exact ⟨by simp [inR]; omega, rfl⟩
theorem isPair_is (r : Bool) (n c d : Int) (hr : isP n c d = r) (hn : Mid n) (hc : Ent c) (hd : Ent d) (w : World) :
    Calls Try.prog 45 #[(.int .i64 n), (.int .i64 c), (.int .i64 d)] w fun e w' => e = .returned (.bool r) ∧ Below w.heap.size w w' := by
  obtain ⟨c1, c2⟩ := hc
  obtain ⟨d1, d2⟩ := hd
  refine hr ▸ isPair_any n c d hn (by unfold Mid; omega) (by unfold Mid; omega) ?_ w
  have hg : (Int.gcd c d : Int) ≤ 1000000000 := by
    rcases (show c = 0 ∨ c ≠ 0 by omega) with h0 | h0
    · subst h0
      rw [Int.gcd_zero_left]
      omega
    · have := Int.le_of_dvd (a := (Int.gcd c d : Int)) (b := (c.natAbs : Int)) (by omega) (by rw [Int.dvd_natAbs]; exact Int.gcd_dvd_left c d)
      omega
  unfold Mid
  omega
def inNp (n c d : Int) : Bool := inR n 1 60 && (inW c 1000000000 && inW d 1000000000)
theorem rst_i64 {x : Int} (h : Ent x) : I64 x := by unfold Ent at h; unfold I64; omega
theorem implNp_no (n c d : Int) (h : inNp n c d = false) (w : World) :
    Calls Try.prog 17 #[(.int .i64 n), (.int .i64 c), (.int .i64 d)] w fun e w' => e = .returned (.tuple #[(.int .i64 0), (.int .i64 0), (.int .i64 2)]) ∧ Below w.heap.size w w' := by
  rcases hn : inR n 1 60 with _ | _
  · have HN := Lib.hid hn
    clear h hn
    go_enter Try.func17, Try.ntmps17
    go_wp2_with fail
    refine (isLevel_is false _ HN.out _).mono ?_
    rintro e w1 ⟨rfl, rfl⟩
    go_wp2
    go_ret3
    exact ⟨rfl, own_refl _⟩
  · have HN := Lib.hid hn
    rcases hc : inW c 1000000000 with _ | _
    · have HC := Lib.hid hc
      clear h hn hc
      go_enter Try.func17, Try.ntmps17
      go_wp2_with fail
      refine (isLevel_is true _ HN.out _).mono ?_
      rintro e w1 ⟨rfl, rfl⟩
      go_wp2_with fail
      refine (isWithin_is false _ _ (by omega) (by omega) HC.out _).mono ?_
      rintro e w1 ⟨rfl, rfl⟩
      go_wp2
      go_ret3
      exact ⟨rfl, own_refl _⟩
    · have HC := Lib.hid hc
      have HD := Lib.hid (show inW d 1000000000 = false by unfold inNp at h; rw [hn, hc] at h; simpa using h)
      clear h hn hc
      go_enter Try.func17, Try.ntmps17
      go_wp2_with fail
      refine (isLevel_is true _ HN.out _).mono ?_
      rintro e w1 ⟨rfl, rfl⟩
      go_wp2_with fail
      refine (isWithin_is true _ _ (by omega) (by omega) HC.out _).mono ?_
      rintro e w1 ⟨rfl, rfl⟩
      go_wp2_with fail
      refine (isWithin_is false _ _ (by omega) (by omega) HD.out _).mono ?_
      rintro e w1 ⟨rfl, rfl⟩
      go_wp2
      go_ret3
      exact ⟨rfl, own_refl _⟩
theorem specNp_no (n c d : Int) (h : inNp n c d = false) (w : World) :
    Calls Try.prog 16 #[(.int .i64 n), (.int .i64 c), (.int .i64 d)] w fun e w' => e = .returned (.tuple #[(.int .i64 0), (.int .i64 0), (.int .i64 2)]) ∧ Below w.heap.size w w' := by
  rcases hn : inR n 1 60 with _ | _
  · have HN := Lib.hid hn
    clear h hn
    go_enter Try.func16, Try.ntmps16
    go_wp2_with fail
    refine (l01In_is false _ _ _ HN.out _).mono ?_
    rintro e w1 ⟨rfl, rfl⟩
    go_wp2
    go_ret3
    exact ⟨rfl, own_refl _⟩
  · have HN := Lib.hid hn
    rcases hc : inW c 1000000000 with _ | _
    · have HC := Lib.hid (fun w => (hc ▸ l01Entry_any c w))
      clear h hn hc
      go_enter Try.func16, Try.ntmps16
      go_wp2_with fail
      refine (l01In_is true _ _ _ HN.out _).mono ?_
      rintro e w1 ⟨rfl, rfl⟩
      go_wp2_with fail
      refine (HC.out _).mono ?_
      rintro e w1 ⟨rfl, rfl⟩
      go_wp2
      go_ret3
      exact ⟨rfl, own_refl _⟩
    · have HC := Lib.hid (fun w => (hc ▸ l01Entry_any c w))
      have hd : inW d 1000000000 = false := by unfold inNp at h; rw [hn, hc] at h; simpa using h
      have HD := Lib.hid (fun w => (hd ▸ l01Entry_any d w))
      clear h hn hc hd
      go_enter Try.func16, Try.ntmps16
      go_wp2_with fail
      refine (l01In_is true _ _ _ HN.out _).mono ?_
      rintro e w1 ⟨rfl, rfl⟩
      go_wp2_with fail
      refine (HC.out _).mono ?_
      rintro e w1 ⟨rfl, rfl⟩
      go_wp2_with fail
      refine (HD.out _).mono ?_
      rintro e w1 ⟨rfl, rfl⟩
      go_wp2
      go_ret3
      exact ⟨rfl, own_refl _⟩
theorem implNp_yes (n c d : Int) (h : inNp n c d = true) (p : Bool) (hp : isP n c d = p) (x y k : Int) (hx : (x, y, k) = if p then ((nrm n (rst c n) (rst d n)).1, (nrm n (rst c n) (rst d n)).2, 0) else (0, 0, 5)) (w : World) :
    Calls Try.prog 17 #[(.int .i64 n), (.int .i64 c), (.int .i64 d)] w fun e w' => e = .returned (.tuple #[(.int .i64 x), (.int .i64 y), (.int .i64 k)]) ∧ Below w.heap.size w w' := by
  have h' : inR n 1 60 = true ∧ inW c 1000000000 = true ∧ inW d 1000000000 = true := by simpa [inNp] using h
  have hn : 1 ≤ n ∧ n ≤ 60 := of_decide_eq_true h'.1
  have hc := ent_iff.1 h'.2.1
  have hd := ent_iff.1 h'.2.2
  have HN := Lib.hid h'.1
  have HC := Lib.hid h'.2.1
  have HD := Lib.hid h'.2.2
  have HP := Lib.hid (fun w => isPair_is p n c d hp (by unfold Mid; omega) hc hd w)
  clear h h' hp
  cases p
  · obtain ⟨rfl, rfl, rfl⟩ : x = 0 ∧ y = 0 ∧ k = 5 := by simpa using hx
    clear hx
    go_enter Try.func17, Try.ntmps17
    go_wp2_with fail
    refine (isLevel_is true _ HN.out _).mono ?_
    rintro e w1 ⟨rfl, rfl⟩
    go_wp2_with fail
    refine (isWithin_is true _ _ (by omega) (by omega) HC.out _).mono ?_
    rintro e w1 ⟨rfl, rfl⟩
    go_wp2_with fail
    refine (isWithin_is true _ _ (by omega) (by omega) HD.out _).mono ?_
    rintro e w1 ⟨rfl, rfl⟩
    go_wp2_with fail
    refine (HP.out _).mono ?_
    rintro e w1 ⟨rfl, hb1⟩
    go_wp2
    go_ret3
    exact ⟨rfl, hb1⟩
  · obtain ⟨r, hr⟩ : ∃ r, nrm n (rst c n) (rst d n) = r := ⟨_, rfl⟩
    rw [hr] at hx
    obtain ⟨rfl, rfl, rfl⟩ : x = r.1 ∧ y = r.2 ∧ k = 0 := by simpa using hx
    have HL := Lib.hid (fun w => levelOf_any n hn.1 hn.2 w)
    have HM := Lib.hid (fun lv w hL => normal_any n c d hn.1 hn.2 (rst_i64 hc) (rst_i64 hd) r hr lv w hL)
    clear hx hr hc hd
    go_enter Try.func17, Try.ntmps17
    go_wp2_with fail
    refine (isLevel_is true _ HN.out _).mono ?_
    rintro e w1 ⟨rfl, rfl⟩
    go_wp2_with fail
    refine (isWithin_is true _ _ (by omega) (by omega) HC.out _).mono ?_
    rintro e w1 ⟨rfl, rfl⟩
    go_wp2_with fail
    refine (isWithin_is true _ _ (by omega) (by omega) HD.out _).mono ?_
    rintro e w1 ⟨rfl, rfl⟩
    go_wp2_with fail
    refine (HP.out _).mono ?_
    rintro e w1 ⟨rfl, hb1⟩
    go_wp2_with fail
    refine (HL.out _).mono ?_
    rintro e w2 ⟨lv, rfl, hLv, hb2⟩
    go_wp2_with fail
    refine (HM.out _ _ hLv).mono ?_
    rintro e w3 ⟨rfl, hb3⟩
    go_wp2
    go_quiet (fail)
    go_wp2
    go_ret3
    exact ⟨rfl, by repeat (first | with_reducible exact own_refl _ | with_reducible assumption | with_reducible apply own_alloc | with_reducible apply own_drewN | with_reducible apply own_drew | ((with_reducible refine own_setCell ?_ ?_ _); rotate_left; focus (first | (simp; done) | (simp; omega))) | (with_reducible (refine own_trans ?_ (by assumption))))⟩
theorem specNp_yes (n c d : Int) (h : inNp n c d = true) (p : Bool) (hp : isP n c d = p) (x y k : Int) (hx : (x, y, k) = if p then ((nrm n (rst c n) (rst d n)).1, (nrm n (rst c n) (rst d n)).2, 0) else (0, 0, 5)) (w : World) :
    Calls Try.prog 16 #[(.int .i64 n), (.int .i64 c), (.int .i64 d)] w fun e w' => e = .returned (.tuple #[(.int .i64 x), (.int .i64 y), (.int .i64 k)]) ∧ Below w.heap.size w w' := by
  have h' : inR n 1 60 = true ∧ inW c 1000000000 = true ∧ inW d 1000000000 = true := by simpa [inNp] using h
  have hn : 1 ≤ n ∧ n ≤ 60 := of_decide_eq_true h'.1
  have hc := ent_iff.1 h'.2.1
  have hd := ent_iff.1 h'.2.2
  have HN := Lib.hid h'.1
  have HC := Lib.hid (fun w => (h'.2.1 ▸ l01Entry_any c w))
  have HD := Lib.hid (fun w => (h'.2.2 ▸ l01Entry_any d w))
  have HX := Lib.hid (fun w => l01Mod_any c n hn.1 (by omega) (rst_i64 hc) w)
  have HY := Lib.hid (fun w => l01Mod_any d n hn.1 (by omega) (rst_i64 hd) w)
  have b1 := rst_bd (x := c) hn.1
  have b2 := rst_bd (x := d) hn.1
  have hp' : isP n (rst c n) (rst d n) = p := by rw [isP_rst n c d hn.1]; exact hp
  obtain ⟨s, hs⟩ : ∃ s, rst c n = s := ⟨_, rfl⟩
  obtain ⟨t, ht⟩ : ∃ t, rst d n = t := ⟨_, rfl⟩
  rw [hs] at b1 hp' HX hx
  rw [ht] at b2 hp' HY hx
  clear h h' hp hs ht hc hd
  cases p
  · obtain ⟨rfl, rfl, rfl⟩ : x = 0 ∧ y = 0 ∧ k = 5 := by simpa using hx
    have HM := Lib.hid (fun w => l06Normal_no n s t (by omega) ⟨b1.1, b1.2, b2.1, b2.2⟩ hp' w)
    clear hx hp'
    go_enter Try.func16, Try.ntmps16
    go_wp2_with fail
    refine (l01In_is true _ _ _ HN.out _).mono ?_
    rintro e w1 ⟨rfl, rfl⟩
    go_wp2_with fail
    refine (HC.out _).mono ?_
    rintro e w1 ⟨rfl, rfl⟩
    go_wp2_with fail
    refine (HD.out _).mono ?_
    rintro e w1 ⟨rfl, rfl⟩
    go_wp2_with fail
    refine (HX.out _).mono ?_
    rintro e w1 ⟨rfl, rfl⟩
    go_wp2_with fail
    refine (HY.out _).mono ?_
    rintro e w1 ⟨rfl, rfl⟩
    go_wp2_with fail
    refine (HM.out _).mono ?_
    rintro e w1 ⟨rfl, hb1⟩
    go_wp2
    go_ret3
    exact ⟨rfl, hb1⟩
  · obtain ⟨r, hr⟩ : ∃ r, nrm n s t = r := ⟨_, rfl⟩
    rw [hr] at hx
    obtain ⟨rfl, rfl, rfl⟩ : x = r.1 ∧ y = r.2 ∧ k = 0 := by simpa using hx
    have HM := Lib.hid (fun w => l06Normal_yes n s t hn.1 (by omega) ⟨b1.1, b1.2, b2.1, b2.2⟩ hp' r hr w)
    clear hx hp' hr
    go_enter Try.func16, Try.ntmps16
    go_wp2_with fail
    refine (l01In_is true _ _ _ HN.out _).mono ?_
    rintro e w1 ⟨rfl, rfl⟩
    go_wp2_with fail
    refine (HC.out _).mono ?_
    rintro e w1 ⟨rfl, rfl⟩
    go_wp2_with fail
    refine (HD.out _).mono ?_
    rintro e w1 ⟨rfl, rfl⟩
    go_wp2_with fail
    refine (HX.out _).mono ?_
    rintro e w1 ⟨rfl, rfl⟩
    go_wp2_with fail
    refine (HY.out _).mono ?_
    rintro e w1 ⟨rfl, rfl⟩
    go_wp2_with fail
    refine (HM.out _).mono ?_
    rintro e w1 ⟨rfl, hb1⟩
    go_wp2
    go_ret3
    exact ⟨rfl, hb1⟩
end Go.Proofs.Ytmijmlngbahaaaa
