/- Desks: IsDesk of both sides, and the walk of its law. -/
import Derived.Test.YtdcomnnpnhinfaaDsk
import Derived.Test.YtdcomnnpnhinfaaIsF
namespace Go.Proofs.Ytdcomnnpnhinfaa
open Go.ChangeShapes Go.WideShapes Go.ChangeAt Go.RowKit
theorem isLevel_D (r : Bool) (n : Int) (hr : inR n 1 60 = r) (w : World) : Calls Try.prog 24 #[(.int .i64 n)] w fun e w' => e = .returned (.bool r) ∧ w = w' := by
  subst hr
  by_cases a : 1 ≤ n
  · by_cases b : n ≤ 60
    · go_enter Try.func24, Try.ntmps24
      go_wp2
      go_ret
      exact ⟨by simp [inR, a, b], rfl⟩
    · go_enter Try.func24, Try.ntmps24
      go_wp2
      go_ret
      exact ⟨by simp [inR, b], rfl⟩
  · go_enter Try.func24, Try.ntmps24
    go_wp2
    go_ret
    exact ⟨by simp [inR]; omega, rfl⟩
/-- a desk -/
def isDk (a b c d p q n : Int) : Bool := isM a b c d && isF p q && inR n 1 60
set_option maxHeartbeats 4000000 in
theorem implIsD_no1 (a b c d p q n : Int) (hm : isM a b c d = false) (w : World) : Calls Try.prog 11 #[.agg #[(.int .i64 a), (.int .i64 b), (.int .i64 c), (.int .i64 d), (.int .i64 p), (.int .i64 q), (.int .i64 n)]] w fun e w' => e = .returned (.bool false) ∧ Below w.heap.size w w' := by
  have HM := Lib.hid hm
  clear hm
  have B0 : Box (w.alloc (.cells #[(.int .i64 a), (.int .i64 b), (.int .i64 c), (.int .i64 d), (.int .i64 p), (.int .i64 q), (.int .i64 n)] 27)) w.heap.size [(.int .i64 a), (.int .i64 b), (.int .i64 c), (.int .i64 d), (.int .i64 p), (.int .i64 q), (.int .i64 n)] := Box.new _ _ _
  have T0 := own_alloc (own_refl w) (.cells #[(.int .i64 a), (.int .i64 b), (.int .i64 c), (.int .i64 d), (.int .i64 p), (.int .i64 q), (.int .i64 n)] 27)
  go_enter Try.func11, Try.ntmps11
  go_upto_region 1 with fail
  generalize w.alloc (.cells #[(.int .i64 a), (.int .i64 b), (.int .i64 c), (.int .i64 d), (.int .i64 p), (.int .i64 q), (.int .i64 n)] 27) = w0 at *
  obtain ⟨-, ⟨c0, c1, c2, c3, c4, c5, c6⟩, -⟩ := B0.seven
  go_wp2_with fail
  refine (implIs_is false _ _ _ _ _ HM.out).mono ?_
  rintro e w2 ⟨rfl, hb⟩
  have T2 := own_trans T0 hb
  go_wp2
  go_ret
  exact ⟨rfl, T2⟩
set_option maxHeartbeats 4000000 in
theorem implIsD_no2 (a b c d p q n : Int) (hm : isM a b c d = true) (hf : isF p q = false) (w : World) : Calls Try.prog 11 #[.agg #[(.int .i64 a), (.int .i64 b), (.int .i64 c), (.int .i64 d), (.int .i64 p), (.int .i64 q), (.int .i64 n)]] w fun e w' => e = .returned (.bool false) ∧ Below w.heap.size w w' := by
  have HM := Lib.hid hm
  have HF := Lib.hid (fun w => hf ▸ implIsF_any p q w)
  clear hm hf
  have B0 : Box (w.alloc (.cells #[(.int .i64 a), (.int .i64 b), (.int .i64 c), (.int .i64 d), (.int .i64 p), (.int .i64 q), (.int .i64 n)] 27)) w.heap.size [(.int .i64 a), (.int .i64 b), (.int .i64 c), (.int .i64 d), (.int .i64 p), (.int .i64 q), (.int .i64 n)] := Box.new _ _ _
  have T0 := own_alloc (own_refl w) (.cells #[(.int .i64 a), (.int .i64 b), (.int .i64 c), (.int .i64 d), (.int .i64 p), (.int .i64 q), (.int .i64 n)] 27)
  go_enter Try.func11, Try.ntmps11
  go_upto_region 1 with fail
  generalize w.alloc (.cells #[(.int .i64 a), (.int .i64 b), (.int .i64 c), (.int .i64 d), (.int .i64 p), (.int .i64 q), (.int .i64 n)] 27) = w0 at *
  obtain ⟨-, ⟨c0, c1, c2, c3, c4, c5, c6⟩, -⟩ := B0.seven
  go_wp2_with fail
  refine (implIs_is true _ _ _ _ _ HM.out).mono ?_
  rintro e w2 ⟨rfl, hb⟩
  have T2 := own_trans T0 hb
  have B1 := B0.below hb
  obtain ⟨-, ⟨c0, c1, c2, c3, c4, c5, c6⟩, -⟩ := B1.seven
  clear hb
  go_wp2_with fail
  refine (HF.out _).mono ?_
  rintro e w3 ⟨rfl, hb⟩
  have T3 := own_trans T2 hb
  go_wp2
  go_ret
  exact ⟨rfl, T3⟩
set_option maxHeartbeats 4000000 in
theorem implIsD_no3 (a b c d p q n : Int) (hm : isM a b c d = true) (hf : isF p q = true) (hn : inR n 1 60 = false) (w : World) : Calls Try.prog 11 #[.agg #[(.int .i64 a), (.int .i64 b), (.int .i64 c), (.int .i64 d), (.int .i64 p), (.int .i64 q), (.int .i64 n)]] w fun e w' => e = .returned (.bool false) ∧ Below w.heap.size w w' := by
  have HM := Lib.hid hm
  have HF := Lib.hid (fun w => hf ▸ implIsF_any p q w)
  have HN := Lib.hid hn
  clear hm hf hn
  have B0 : Box (w.alloc (.cells #[(.int .i64 a), (.int .i64 b), (.int .i64 c), (.int .i64 d), (.int .i64 p), (.int .i64 q), (.int .i64 n)] 27)) w.heap.size [(.int .i64 a), (.int .i64 b), (.int .i64 c), (.int .i64 d), (.int .i64 p), (.int .i64 q), (.int .i64 n)] := Box.new _ _ _
  have T0 := own_alloc (own_refl w) (.cells #[(.int .i64 a), (.int .i64 b), (.int .i64 c), (.int .i64 d), (.int .i64 p), (.int .i64 q), (.int .i64 n)] 27)
  go_enter Try.func11, Try.ntmps11
  go_upto_region 1 with fail
  generalize w.alloc (.cells #[(.int .i64 a), (.int .i64 b), (.int .i64 c), (.int .i64 d), (.int .i64 p), (.int .i64 q), (.int .i64 n)] 27) = w0 at *
  obtain ⟨-, ⟨c0, c1, c2, c3, c4, c5, c6⟩, -⟩ := B0.seven
  go_wp2_with fail
  refine (implIs_is true _ _ _ _ _ HM.out).mono ?_
  rintro e w2 ⟨rfl, hb⟩
  have T2 := own_trans T0 hb
  have B1 := B0.below hb
  obtain ⟨-, ⟨c0, c1, c2, c3, c4, c5, c6⟩, -⟩ := B1.seven
  clear hb
  go_wp2_with fail
  refine (HF.out _).mono ?_
  rintro e w3 ⟨rfl, hb⟩
  have T3 := own_trans T2 hb
  have B2 := B1.below hb
  obtain ⟨-, ⟨c0, c1, c2, c3, c4, c5, c6⟩, -⟩ := B2.seven
  clear hb
  go_wp2_with fail
  refine (isLevel_D false _ HN.out _).mono ?_
  rintro e w4 ⟨rfl, rfl⟩
  go_wp2
  go_ret
  exact ⟨rfl, T3⟩
set_option maxHeartbeats 4000000 in
theorem implIsD_yes (a b c d p q n : Int) (hm : isM a b c d = true) (hf : isF p q = true) (hn : inR n 1 60 = true) (w : World) : Calls Try.prog 11 #[.agg #[(.int .i64 a), (.int .i64 b), (.int .i64 c), (.int .i64 d), (.int .i64 p), (.int .i64 q), (.int .i64 n)]] w fun e w' => e = .returned (.bool true) ∧ Below w.heap.size w w' := by
  have HM := Lib.hid hm
  have HF := Lib.hid (fun w => hf ▸ implIsF_any p q w)
  have HN := Lib.hid hn
  clear hm hf hn
  have B0 : Box (w.alloc (.cells #[(.int .i64 a), (.int .i64 b), (.int .i64 c), (.int .i64 d), (.int .i64 p), (.int .i64 q), (.int .i64 n)] 27)) w.heap.size [(.int .i64 a), (.int .i64 b), (.int .i64 c), (.int .i64 d), (.int .i64 p), (.int .i64 q), (.int .i64 n)] := Box.new _ _ _
  have T0 := own_alloc (own_refl w) (.cells #[(.int .i64 a), (.int .i64 b), (.int .i64 c), (.int .i64 d), (.int .i64 p), (.int .i64 q), (.int .i64 n)] 27)
  go_enter Try.func11, Try.ntmps11
  go_upto_region 1 with fail
  generalize w.alloc (.cells #[(.int .i64 a), (.int .i64 b), (.int .i64 c), (.int .i64 d), (.int .i64 p), (.int .i64 q), (.int .i64 n)] 27) = w0 at *
  obtain ⟨-, ⟨c0, c1, c2, c3, c4, c5, c6⟩, -⟩ := B0.seven
  go_wp2_with fail
  refine (implIs_is true _ _ _ _ _ HM.out).mono ?_
  rintro e w2 ⟨rfl, hb⟩
  have T2 := own_trans T0 hb
  have B1 := B0.below hb
  obtain ⟨-, ⟨c0, c1, c2, c3, c4, c5, c6⟩, -⟩ := B1.seven
  clear hb
  go_wp2_with fail
  refine (HF.out _).mono ?_
  rintro e w3 ⟨rfl, hb⟩
  have T3 := own_trans T2 hb
  have B2 := B1.below hb
  obtain ⟨-, ⟨c0, c1, c2, c3, c4, c5, c6⟩, -⟩ := B2.seven
  clear hb
  go_wp2_with fail
  refine (isLevel_D true _ HN.out _).mono ?_
  rintro e w4 ⟨rfl, rfl⟩
  go_wp2
  go_ret
  exact ⟨rfl, T3⟩
theorem implIsD_any (a b c d p q n : Int) (w : World) : Calls Try.prog 11 #[.agg #[(.int .i64 a), (.int .i64 b), (.int .i64 c), (.int .i64 d), (.int .i64 p), (.int .i64 q), (.int .i64 n)]] w fun e w' => e = .returned (.bool (isDk a b c d p q n)) ∧ Below w.heap.size w w' := by
  unfold isDk
  cases hm : isM a b c d
  · exact implIsD_no1 a b c d p q n hm w
  · cases hf : isF p q
    · exact implIsD_no2 a b c d p q n hm hf w
    · cases hn : inR n 1 60
      · exact implIsD_no3 a b c d p q n hm hf hn w
      · exact implIsD_yes a b c d p q n hm hf hn w
set_option maxHeartbeats 4000000 in
theorem specIsD_no1 (a b c d p q n : Int) (hm : isM a b c d = false) (w : World) : Calls Try.prog 9 #[.agg #[(.int .i64 a), (.int .i64 b), (.int .i64 c), (.int .i64 d), (.int .i64 p), (.int .i64 q), (.int .i64 n)]] w fun e w' => e = .returned (.bool false) ∧ Below w.heap.size w w' := by
  have HM := Lib.hid hm
  clear hm
  have B0 : Box (w.alloc (.cells #[(.int .i64 a), (.int .i64 b), (.int .i64 c), (.int .i64 d), (.int .i64 p), (.int .i64 q), (.int .i64 n)] 27)) w.heap.size [(.int .i64 a), (.int .i64 b), (.int .i64 c), (.int .i64 d), (.int .i64 p), (.int .i64 q), (.int .i64 n)] := Box.new _ _ _
  have T0 := own_alloc (own_refl w) (.cells #[(.int .i64 a), (.int .i64 b), (.int .i64 c), (.int .i64 d), (.int .i64 p), (.int .i64 q), (.int .i64 n)] 27)
  go_enter Try.func9, Try.ntmps9
  go_upto_region 1 with fail
  generalize w.alloc (.cells #[(.int .i64 a), (.int .i64 b), (.int .i64 c), (.int .i64 d), (.int .i64 p), (.int .i64 q), (.int .i64 n)] 27) = w0 at *
  obtain ⟨-, ⟨c0, c1, c2, c3, c4, c5, c6⟩, -⟩ := B0.seven
  go_wp2_with fail
  refine (l01Is_is false _ _ _ _ _ HM.out).mono ?_
  rintro e w2 ⟨rfl, hb⟩
  have T2 := own_trans T0 hb
  go_wp2
  go_ret
  exact ⟨rfl, T2⟩
set_option maxHeartbeats 4000000 in
theorem specIsD_no2 (a b c d p q n : Int) (hm : isM a b c d = true) (hf : isF p q = false) (w : World) : Calls Try.prog 9 #[.agg #[(.int .i64 a), (.int .i64 b), (.int .i64 c), (.int .i64 d), (.int .i64 p), (.int .i64 q), (.int .i64 n)]] w fun e w' => e = .returned (.bool false) ∧ Below w.heap.size w w' := by
  have HM := Lib.hid hm
  have HF := Lib.hid (fun w => hf ▸ l01Fraction_any p q w)
  clear hm hf
  have B0 : Box (w.alloc (.cells #[(.int .i64 a), (.int .i64 b), (.int .i64 c), (.int .i64 d), (.int .i64 p), (.int .i64 q), (.int .i64 n)] 27)) w.heap.size [(.int .i64 a), (.int .i64 b), (.int .i64 c), (.int .i64 d), (.int .i64 p), (.int .i64 q), (.int .i64 n)] := Box.new _ _ _
  have T0 := own_alloc (own_refl w) (.cells #[(.int .i64 a), (.int .i64 b), (.int .i64 c), (.int .i64 d), (.int .i64 p), (.int .i64 q), (.int .i64 n)] 27)
  go_enter Try.func9, Try.ntmps9
  go_upto_region 1 with fail
  generalize w.alloc (.cells #[(.int .i64 a), (.int .i64 b), (.int .i64 c), (.int .i64 d), (.int .i64 p), (.int .i64 q), (.int .i64 n)] 27) = w0 at *
  obtain ⟨-, ⟨c0, c1, c2, c3, c4, c5, c6⟩, -⟩ := B0.seven
  go_wp2_with fail
  refine (l01Is_is true _ _ _ _ _ HM.out).mono ?_
  rintro e w2 ⟨rfl, hb⟩
  have T2 := own_trans T0 hb
  have B1 := B0.below hb
  obtain ⟨-, ⟨c0, c1, c2, c3, c4, c5, c6⟩, -⟩ := B1.seven
  clear hb
  go_wp2_with fail
  refine (HF.out _).mono ?_
  rintro e w3 ⟨rfl, hb⟩
  have T3 := own_trans T2 hb
  go_wp2
  go_ret
  exact ⟨rfl, T3⟩
set_option maxHeartbeats 4000000 in
theorem specIsD_no3 (a b c d p q n : Int) (hm : isM a b c d = true) (hf : isF p q = true) (hn : inR n 1 60 = false) (w : World) : Calls Try.prog 9 #[.agg #[(.int .i64 a), (.int .i64 b), (.int .i64 c), (.int .i64 d), (.int .i64 p), (.int .i64 q), (.int .i64 n)]] w fun e w' => e = .returned (.bool false) ∧ Below w.heap.size w w' := by
  have HM := Lib.hid hm
  have HF := Lib.hid (fun w => hf ▸ l01Fraction_any p q w)
  have HN := Lib.hid hn
  clear hm hf hn
  have B0 : Box (w.alloc (.cells #[(.int .i64 a), (.int .i64 b), (.int .i64 c), (.int .i64 d), (.int .i64 p), (.int .i64 q), (.int .i64 n)] 27)) w.heap.size [(.int .i64 a), (.int .i64 b), (.int .i64 c), (.int .i64 d), (.int .i64 p), (.int .i64 q), (.int .i64 n)] := Box.new _ _ _
  have T0 := own_alloc (own_refl w) (.cells #[(.int .i64 a), (.int .i64 b), (.int .i64 c), (.int .i64 d), (.int .i64 p), (.int .i64 q), (.int .i64 n)] 27)
  go_enter Try.func9, Try.ntmps9
  go_upto_region 1 with fail
  generalize w.alloc (.cells #[(.int .i64 a), (.int .i64 b), (.int .i64 c), (.int .i64 d), (.int .i64 p), (.int .i64 q), (.int .i64 n)] 27) = w0 at *
  obtain ⟨-, ⟨c0, c1, c2, c3, c4, c5, c6⟩, -⟩ := B0.seven
  go_wp2_with fail
  refine (l01Is_is true _ _ _ _ _ HM.out).mono ?_
  rintro e w2 ⟨rfl, hb⟩
  have T2 := own_trans T0 hb
  have B1 := B0.below hb
  obtain ⟨-, ⟨c0, c1, c2, c3, c4, c5, c6⟩, -⟩ := B1.seven
  clear hb
  go_wp2_with fail
  refine (HF.out _).mono ?_
  rintro e w3 ⟨rfl, hb⟩
  have T3 := own_trans T2 hb
  have B2 := B1.below hb
  obtain ⟨-, ⟨c0, c1, c2, c3, c4, c5, c6⟩, -⟩ := B2.seven
  clear hb
  go_wp2_with fail
  refine (l01In_is false _ _ _ HN.out _).mono ?_
  rintro e w4 ⟨rfl, rfl⟩
  go_wp2
  go_ret
  exact ⟨rfl, T3⟩
set_option maxHeartbeats 4000000 in
theorem specIsD_yes (a b c d p q n : Int) (hm : isM a b c d = true) (hf : isF p q = true) (hn : inR n 1 60 = true) (w : World) : Calls Try.prog 9 #[.agg #[(.int .i64 a), (.int .i64 b), (.int .i64 c), (.int .i64 d), (.int .i64 p), (.int .i64 q), (.int .i64 n)]] w fun e w' => e = .returned (.bool true) ∧ Below w.heap.size w w' := by
  have HM := Lib.hid hm
  have HF := Lib.hid (fun w => hf ▸ l01Fraction_any p q w)
  have HN := Lib.hid hn
  clear hm hf hn
  have B0 : Box (w.alloc (.cells #[(.int .i64 a), (.int .i64 b), (.int .i64 c), (.int .i64 d), (.int .i64 p), (.int .i64 q), (.int .i64 n)] 27)) w.heap.size [(.int .i64 a), (.int .i64 b), (.int .i64 c), (.int .i64 d), (.int .i64 p), (.int .i64 q), (.int .i64 n)] := Box.new _ _ _
  have T0 := own_alloc (own_refl w) (.cells #[(.int .i64 a), (.int .i64 b), (.int .i64 c), (.int .i64 d), (.int .i64 p), (.int .i64 q), (.int .i64 n)] 27)
  go_enter Try.func9, Try.ntmps9
  go_upto_region 1 with fail
  generalize w.alloc (.cells #[(.int .i64 a), (.int .i64 b), (.int .i64 c), (.int .i64 d), (.int .i64 p), (.int .i64 q), (.int .i64 n)] 27) = w0 at *
  obtain ⟨-, ⟨c0, c1, c2, c3, c4, c5, c6⟩, -⟩ := B0.seven
  go_wp2_with fail
  refine (l01Is_is true _ _ _ _ _ HM.out).mono ?_
  rintro e w2 ⟨rfl, hb⟩
  have T2 := own_trans T0 hb
  have B1 := B0.below hb
  obtain ⟨-, ⟨c0, c1, c2, c3, c4, c5, c6⟩, -⟩ := B1.seven
  clear hb
  go_wp2_with fail
  refine (HF.out _).mono ?_
  rintro e w3 ⟨rfl, hb⟩
  have T3 := own_trans T2 hb
  have B2 := B1.below hb
  obtain ⟨-, ⟨c0, c1, c2, c3, c4, c5, c6⟩, -⟩ := B2.seven
  clear hb
  go_wp2_with fail
  refine (l01In_is true _ _ _ HN.out _).mono ?_
  rintro e w4 ⟨rfl, rfl⟩
  go_wp2
  go_ret
  exact ⟨rfl, T3⟩
theorem specIsD_any (a b c d p q n : Int) (w : World) : Calls Try.prog 9 #[.agg #[(.int .i64 a), (.int .i64 b), (.int .i64 c), (.int .i64 d), (.int .i64 p), (.int .i64 q), (.int .i64 n)]] w fun e w' => e = .returned (.bool (isDk a b c d p q n)) ∧ Below w.heap.size w w' := by
  unfold isDk
  cases hm : isM a b c d
  · exact specIsD_no1 a b c d p q n hm w
  · cases hf : isF p q
    · exact specIsD_no2 a b c d p q n hm hf w
    · cases hn : inR n 1 60
      · exact specIsD_no3 a b c d p q n hm hf hn w
      · exact specIsD_yes a b c d p q n hm hf hn w
set_option maxHeartbeats 8000000 in
theorem toDesk_any (a b c d p q n : Int) (w : World) : Calls Try.prog 10 #[.agg #[(.int .i64 a), (.int .i64 b), (.int .i64 c), (.int .i64 d), (.int .i64 p), (.int .i64 q), (.int .i64 n)]] w fun e w' => e = .returned (.agg #[(.int .i64 a), (.int .i64 b), (.int .i64 c), (.int .i64 d), (.int .i64 p), (.int .i64 q), (.int .i64 n)]) ∧ Below w.heap.size w w' := by
  have B0 : Box (((w.alloc (.cells #[(.int .i64 a), (.int .i64 b), (.int .i64 c), (.int .i64 d), (.int .i64 p), (.int .i64 q), (.int .i64 n)] 32)).alloc (.cells #[(.int .i64 0), (.int .i64 0), (.int .i64 0), (.int .i64 0), (.int .i64 0), (.int .i64 0), (.int .i64 0)] 27)).alloc (.cells #[(.int .i64 0), (.int .i64 0), (.int .i64 0), (.int .i64 0), (.int .i64 0), (.int .i64 0), (.int .i64 0)] 27)) w.heap.size [(.int .i64 a), (.int .i64 b), (.int .i64 c), (.int .i64 d), (.int .i64 p), (.int .i64 q), (.int .i64 n)] := ((Box.new _ _ _).alloc _).alloc _
  have R0 : Box (((w.alloc (.cells #[(.int .i64 a), (.int .i64 b), (.int .i64 c), (.int .i64 d), (.int .i64 p), (.int .i64 q), (.int .i64 n)] 32)).alloc (.cells #[(.int .i64 0), (.int .i64 0), (.int .i64 0), (.int .i64 0), (.int .i64 0), (.int .i64 0), (.int .i64 0)] 27)).alloc (.cells #[(.int .i64 0), (.int .i64 0), (.int .i64 0), (.int .i64 0), (.int .i64 0), (.int .i64 0), (.int .i64 0)] 27)) (w.heap.size + 1) [(.int .i64 0), (.int .i64 0), (.int .i64 0), (.int .i64 0), (.int .i64 0), (.int .i64 0), (.int .i64 0)] := Box.alloc (Box.newAt (by simp) _ _) _
  have O0 : Box (((w.alloc (.cells #[(.int .i64 a), (.int .i64 b), (.int .i64 c), (.int .i64 d), (.int .i64 p), (.int .i64 q), (.int .i64 n)] 32)).alloc (.cells #[(.int .i64 0), (.int .i64 0), (.int .i64 0), (.int .i64 0), (.int .i64 0), (.int .i64 0), (.int .i64 0)] 27)).alloc (.cells #[(.int .i64 0), (.int .i64 0), (.int .i64 0), (.int .i64 0), (.int .i64 0), (.int .i64 0), (.int .i64 0)] 27)) (w.heap.size + 1 + 1) [(.int .i64 0), (.int .i64 0), (.int .i64 0), (.int .i64 0), (.int .i64 0), (.int .i64 0), (.int .i64 0)] := Box.newAt (by simp) _ _
  have T0 := own_alloc (own_alloc (own_alloc (own_refl w) (.cells #[(.int .i64 a), (.int .i64 b), (.int .i64 c), (.int .i64 d), (.int .i64 p), (.int .i64 q), (.int .i64 n)] 32)) (.cells #[(.int .i64 0), (.int .i64 0), (.int .i64 0), (.int .i64 0), (.int .i64 0), (.int .i64 0), (.int .i64 0)] 27)) (.cells #[(.int .i64 0), (.int .i64 0), (.int .i64 0), (.int .i64 0), (.int .i64 0), (.int .i64 0), (.int .i64 0)] 27)
  go_enter Try.func10, Try.ntmps10
  go_upto_region 2 with fail
  generalize ((w.alloc (.cells #[(.int .i64 a), (.int .i64 b), (.int .i64 c), (.int .i64 d), (.int .i64 p), (.int .i64 q), (.int .i64 n)] 32)).alloc (.cells #[(.int .i64 0), (.int .i64 0), (.int .i64 0), (.int .i64 0), (.int .i64 0), (.int .i64 0), (.int .i64 0)] 27)).alloc (.cells #[(.int .i64 0), (.int .i64 0), (.int .i64 0), (.int .i64 0), (.int .i64 0), (.int .i64 0), (.int .i64 0)] 27) = w0 at *
  obtain ⟨-, ⟨c0, c1, c2, c3, c4, c5, c6⟩, -⟩ := B0.seven
  go_wp2_with fail
  refine (toMatrix_any _ _ _ _ _).mono ?_
  rintro e w2 ⟨rfl, hb⟩
  have T1 := own_trans T0 hb
  have B1 := B0.below hb
  have R1 := R0.below hb
  have O1 := O0.below hb
  obtain ⟨-, ⟨d0, d1, d2, d3, d4, d5, d6⟩, f0, f1, f2, f3, f4, f5, f6⟩ := O1.seven
  clear hb B0 R0 O0 T0 c0 c1 c2 c3 c4 c5 c6
  have B2 := (((B1.far (p := ⟨w.heap.size + 1 + 1, 0, none⟩) (by simp; omega) (.int .i64 a)).far (p := ⟨w.heap.size + 1 + 1, 1, none⟩) (by simp; omega) (.int .i64 b)).far (p := ⟨w.heap.size + 1 + 1, 2, none⟩) (by simp; omega) (.int .i64 c)).far (p := ⟨w.heap.size + 1 + 1, 3, none⟩) (by simp; omega) (.int .i64 d)
  have R2 := (((R1.far (p := ⟨w.heap.size + 1 + 1, 0, none⟩) (by simp) (.int .i64 a)).far (p := ⟨w.heap.size + 1 + 1, 1, none⟩) (by simp) (.int .i64 b)).far (p := ⟨w.heap.size + 1 + 1, 2, none⟩) (by simp) (.int .i64 c)).far (p := ⟨w.heap.size + 1 + 1, 3, none⟩) (by simp) (.int .i64 d)
  have O2 := (((O1.set 0 (by simp) (.int .i64 a)).set 1 (by simp) (.int .i64 b)).set 2 (by simp) (.int .i64 c)).set 3 (by simp) (.int .i64 d)
  have T2 := own_setCell (own_setCell (own_setCell (own_setCell T1 (p := ⟨w.heap.size + 1 + 1, 0, none⟩) (by simp; omega) (.int .i64 a)) (p := ⟨w.heap.size + 1 + 1, 1, none⟩) (by simp; omega) (.int .i64 b)) (p := ⟨w.heap.size + 1 + 1, 2, none⟩) (by simp; omega) (.int .i64 c)) (p := ⟨w.heap.size + 1 + 1, 3, none⟩) (by simp; omega) (.int .i64 d)
  simp only [List.set_cons_zero, List.set_cons_succ] at O2
  go_upto_region 3 with fail
  generalize (((w2.setCell ⟨w.heap.size + 1 + 1, 0, none⟩ (.int .i64 a)).setCell ⟨w.heap.size + 1 + 1, 1, none⟩ (.int .i64 b)).setCell ⟨w.heap.size + 1 + 1, 2, none⟩ (.int .i64 c)).setCell ⟨w.heap.size + 1 + 1, 3, none⟩ (.int .i64 d) = w3 at *
  clear B1 R1 O1 T1 d0 d1 d2 d3 d4 d5 d6 f0 f1 f2 f3 f4 f5 f6
  obtain ⟨-, ⟨c0, c1, c2, c3, c4, c5, c6⟩, -⟩ := B2.seven
  go_wp2_with fail
  refine (toFraction_any _ _ _).mono ?_
  rintro e w4 ⟨rfl, hb⟩
  have T3 := own_trans T2 hb
  have B3 := B2.below hb
  have R3 := R2.below hb
  have O3 := O2.below hb
  obtain ⟨-, ⟨d0, d1, d2, d3, d4, d5, d6⟩, f0, f1, f2, f3, f4, f5, f6⟩ := O3.seven
  clear hb B2 R2 O2 T2 c0 c1 c2 c3 c4 c5 c6
  have B4 := (B3.far (p := ⟨w.heap.size + 1 + 1, 4, none⟩) (by simp; omega) (.int .i64 p)).far (p := ⟨w.heap.size + 1 + 1, 5, none⟩) (by simp; omega) (.int .i64 q)
  have R4 := (R3.far (p := ⟨w.heap.size + 1 + 1, 4, none⟩) (by simp) (.int .i64 p)).far (p := ⟨w.heap.size + 1 + 1, 5, none⟩) (by simp) (.int .i64 q)
  have O4 := (O3.set 4 (by simp) (.int .i64 p)).set 5 (by simp) (.int .i64 q)
  have T4 := own_setCell (own_setCell T3 (p := ⟨w.heap.size + 1 + 1, 4, none⟩) (by simp; omega) (.int .i64 p)) (p := ⟨w.heap.size + 1 + 1, 5, none⟩) (by simp; omega) (.int .i64 q)
  simp only [List.set_cons_zero, List.set_cons_succ] at O4
  go_upto_region 4 with fail
  generalize (w4.setCell ⟨w.heap.size + 1 + 1, 4, none⟩ (.int .i64 p)).setCell ⟨w.heap.size + 1 + 1, 5, none⟩ (.int .i64 q) = w5 at *
  clear B3 R3 O3 T3 d0 d1 d2 d3 d4 d5 d6 f0 f1 f2 f3 f4 f5 f6
  obtain ⟨-, ⟨c0, c1, c2, c3, c4, c5, c6⟩, -⟩ := B4.seven
  obtain ⟨-, ⟨d0, d1, d2, d3, d4, d5, d6⟩, f0, f1, f2, f3, f4, f5, f6⟩ := O4.seven
  have R5 := R4.far (p := ⟨w.heap.size + 1 + 1, 6, none⟩) (by simp) (.int .i64 n)
  have O5 := O4.set 6 (by simp) (.int .i64 n)
  have T5 := own_setCell T4 (p := ⟨w.heap.size + 1 + 1, 6, none⟩) (by simp; omega) (.int .i64 n)
  simp only [List.set_cons_zero, List.set_cons_succ] at O5
  go_upto_region 5 with fail
  generalize w5.setCell ⟨w.heap.size + 1 + 1, 6, none⟩ (.int .i64 n) = w6 at *
  clear B4 R4 O4 T4 d0 d1 d2 d3 d4 d5 d6 f0 f1 f2 f3 f4 f5 f6 c0 c1 c2 c3 c4 c5 c6
  obtain ⟨-, ⟨c0, c1, c2, c3, c4, c5, c6⟩, -⟩ := O5.seven
  obtain ⟨-, ⟨d0, d1, d2, d3, d4, d5, d6⟩, f0, f1, f2, f3, f4, f5, f6⟩ := R5.seven
  have R6 := R5.put7 (.int .i64 a) (.int .i64 b) (.int .i64 c) (.int .i64 d) (.int .i64 p) (.int .i64 q) (.int .i64 n)
  have T6 := own7 T5 (g := w.heap.size + 1) (by omega) (.int .i64 a) (.int .i64 b) (.int .i64 c) (.int .i64 d) (.int .i64 p) (.int .i64 q) (.int .i64 n)
  clear R5 T5 O5
  go_wp2
  obtain ⟨-, ⟨c0, c1, c2, c3, c4, c5, c6⟩, -⟩ := R6.seven
  exact bodyPost_ret (v := .agg #[(.int .i64 a), (.int .i64 b), (.int .i64 c), (.int .i64 d), (.int .i64 p), (.int .i64 q), (.int .i64 n)]) (by simp [results, Try.results10, go_sem, c0, c1, c2, c3, c4, c5, c6]) rfl ⟨rfl, T6⟩
set_option maxHeartbeats 4000000 in
theorem lawIsD_walk (a b c d p q n : Int) (w : World) : Calls Try.prog 4 #[.agg #[(.int .i64 a), (.int .i64 b), (.int .i64 c), (.int .i64 d), (.int .i64 p), (.int .i64 q), (.int .i64 n)]] w fun e w' => e = .returned (.bool true) ∧ Below w.heap.size w w' := by
  have HS := Lib.hid (fun w => specIsD_any a b c d p q n w)
  have HI := Lib.hid (fun w => implIsD_any a b c d p q n w)
  generalize isDk a b c d p q n = r at *
  have B0 : Box (w.alloc (.cells #[(.int .i64 a), (.int .i64 b), (.int .i64 c), (.int .i64 d), (.int .i64 p), (.int .i64 q), (.int .i64 n)] 32)) w.heap.size [(.int .i64 a), (.int .i64 b), (.int .i64 c), (.int .i64 d), (.int .i64 p), (.int .i64 q), (.int .i64 n)] := Box.new _ _ _
  have T0 := own_alloc (own_refl w) (.cells #[(.int .i64 a), (.int .i64 b), (.int .i64 c), (.int .i64 d), (.int .i64 p), (.int .i64 q), (.int .i64 n)] 32)
  go_enter Try.func4, Try.ntmps4
  go_upto_region 1 with fail
  generalize w.alloc (.cells #[(.int .i64 a), (.int .i64 b), (.int .i64 c), (.int .i64 d), (.int .i64 p), (.int .i64 q), (.int .i64 n)] 32) = w0 at *
  obtain ⟨-, ⟨c0, c1, c2, c3, c4, c5, c6⟩, -⟩ := B0.seven
  go_wp2_with fail
  refine (toDesk_any _ _ _ _ _ _ _ _).mono ?_
  rintro e w2 ⟨rfl, hb⟩
  go_wp2_with fail
  refine (HS.out _).mono ?_
  rintro e w3 ⟨rfl, hb3⟩
  have B3 := B0.below (own_trans hb hb3)
  have T3 := own_trans T0 (own_trans hb hb3)
  obtain ⟨-, ⟨c0, c1, c2, c3, c4, c5, c6⟩, -⟩ := B3.seven
  go_wp2_with fail
  refine (toDesk_any _ _ _ _ _ _ _ _).mono ?_
  rintro e w4 ⟨rfl, hb4⟩
  go_wp2_with fail
  refine (HI.out _).mono ?_
  rintro e w5 ⟨rfl, hb5⟩
  go_wp2
  go_ret
  exact ⟨rfl, own_trans T3 (own_trans hb4 hb5)⟩
end Go.Proofs.Ytdcomnnpnhinfaa
