/- Points led by the model's letters. -/
import Derived.Test.YtfchfakkbdfajaaDoorAcI
import Derived.OwnWalk
namespace Go.Proofs.YtfchfakkbdfajaaDoor
open Go.ChangeShapes Go.WideShapes Go.ChangeAt Go.RowKit

set_option maxHeartbeats 4000000 in
theorem l10Back_is (a b : Value) (s t : List Int) (n : Nat) (hs : Pm s n) (ht : Pm t n) (i : Nat) (hi : i < n) (w : World) (ha : Rl w a s) (hb : Rl w b t) :
    Calls Tryd.prog 53 #[.agg #[a, b], (.int .i64 ((i : Int)))] w fun e w' => e = .returned (.int .i64 (((bk t i n : Nat) : Int))) ∧ Below w.heap.size w w' := by
  obtain ⟨g, c, rfl, _⟩ := ha.at (by rw [hs.len]; omega)
  obtain ⟨g', c', rfl, hg⟩ := hb.at (by rw [ht.len]; omega)
  rw [hs.len, ht.len] at *
  have HT := Lib.hid ht
  have HG := Lib.hid hg
  have HI := Lib.hid hi
  have HR : Hid (Rch t i (n - 1) (pt t i)) := Lib.hid (rch_of ht hi)
  clear hs ht ha hb hg
  have B0 : Box (w.alloc (.cells #[.slice (some ⟨g, 0, none⟩) n c, .slice (some ⟨g', 0, none⟩) n c'] 28)) w.heap.size [.slice (some ⟨g, 0, none⟩) n c, .slice (some ⟨g', 0, none⟩) n c'] := Box.new _ _ _
  have T0 := own_alloc (own_refl w) (.cells #[.slice (some ⟨g, 0, none⟩) n c, .slice (some ⟨g', 0, none⟩) n c'] 28)
  go_enter Tryd.func53, Tryd.ntmps53
  go_wp2
  generalize w.alloc (.cells #[.slice (some ⟨g, 0, none⟩) n c, .slice (some ⟨g', 0, none⟩) n c'] 28) = w0 at *
  go_loopw [5] (fun x wr => ∃ j f : Nat, x = (.int .i64 ((j : Int))) ∧ j < n ∧ f ≤ n ∧ Hid (Rch t i f (pt t j)) ∧ Below w.heap.size w wr ∧ Box wr w.heap.size [.slice (some ⟨g, 0, none⟩) n c, .slice (some ⟨g', 0, none⟩) n c']) (fun x _ => dst t i n (pt t (intOf x).toNat))
  case atStart => exact ⟨i, n - 1, rfl, hi, by omega, HR, T0, B0⟩
  case round =>
    clear T0 B0 w0 hi
    obtain ⟨j, f, rfl, hj, hf, HRf, T, B⟩ := hrel
    obtain ⟨-, c0, c1, -, -⟩ := B.two
    obtain ⟨e, hp⟩ := HT.out.at hj
    have cc := (HG.out.below T).2 j (by rw [HT.out.len]; exact hj)
    rw [e] at cc
    by_cases hx : pt t j = i
    · have HJ : Hid (j = bk t i n) := Lib.hid (bk_un HT.out HI.out hj hx)
      rw [hx] at cc
      clear e hp hx
      go_wp2
      go_ret
      exact ⟨ret_int (by rw [HJ.out]), T⟩
    · have hf0 : 0 < f := by
        rcases Nat.eq_zero_or_pos f with h | h
        · subst h; exact absurd HRf.out.zero hx
        · exact h
      obtain ⟨f, rfl⟩ : ∃ f', f = f' + 1 := ⟨f - 1, by omega⟩
      have HR2 : Hid (Rch t i f (pt t (pt t j))) := Lib.hid (HRf.out.next hx)
      have HD : Hid (dst t i n (pt t j) = 1 + dst t i n (pt t (pt t j))) := Lib.hid (dst_step HRf.out hf hx)
      obtain ⟨y, hy⟩ : ∃ y, pt t j = y := ⟨_, rfl⟩
      rw [hy] at cc hp hx HR2 HD
      have HY := Lib.hid hy
      have hx2 : ¬ (y : Int) = (i : Int) := by omega
      clear e hy hx
      go_wp2
      go_roundw
      case rel => exact ⟨y, f, rfl, hp, by omega, HR2, T, B⟩
      case measure =>
        simp only [intOf, Int.toNat_natCast]
        rw [HY.out, HD.out]
        omega
def Cs2 (w : World) (g i y x z : Nat) : Prop := w.cell? ⟨g, i, none⟩ = some (.int .i64 ((x : Int))) ∧ w.cell? ⟨g, y, none⟩ = some (.int .i64 ((z : Int)))
theorem Ltr.five {c : UInt8} (h : Ltr c) : c = 83 ∨ c = 84 ∨ c = 116 ∨ c = 76 ∨ c = 108 := h
set_option maxHeartbeats 8000000 in
theorem l10Letter_is (a b : Value) (s t : List Int) (n : Nat) (hs : Pm s n) (ht : Pm t n) (ch : UInt8) (hc : Ltr ch) (i : Nat) (hi : i < n) (w : World) (ha : Rl w a s) (hb : Rl w b t) :
    Calls Tryd.prog 24 #[.agg #[a, b], .int .u8 ((ch.toNat : Nat) : Int), (.int .i64 ((i : Int)))] w fun e w' => e = .returned (.int .i64 (((stL s t n ch i : Nat) : Int))) ∧ Below w.heap.size w w' := by
  have HB := Lib.hid (fun i (hi : i < n) w' (h : Below w.heap.size w w') => l10Back_is a b s t n hs ht i hi w' (ha.below h) (hb.below h))
  have h1 := hs.at hi
  have h2 := ht.at hi
  have h3 := bk_lt ht h1.2
  have h4 := hs.at h3.2
  have h5 := ht.at h1.2
  have h6 := hs.at h5.2
  obtain ⟨g, c, rfl, hg⟩ := ha.at (by rw [hs.len]; omega)
  obtain ⟨g', c', rfl, hg'⟩ := hb.at (by rw [ht.len]; omega)
  have HG := Lib.hid (And.intro hg hg')
  have k1 := hg.2 i (by rw [hs.len]; exact hi)
  have k2 := hg'.2 i (by rw [ht.len]; exact hi)
  have k4 := hg.2 _ (by rw [hs.len]; exact h3.2)
  have k5 := hg'.2 _ (by rw [ht.len]; exact h1.2)
  have k6 := hg.2 _ (by rw [hs.len]; exact h5.2)
  rw [h1.1] at k1
  rw [h2.1] at k2
  rw [h4.1] at k4
  rw [h5.1] at k5
  rw [h6.1] at k6
  have q1 := h1.2
  have q2 := h2.2
  have q3 := h3.2
  have q5 := h5.2
  have lg := hg.1
  have lg' := hg'.1
  rw [hs.len, ht.len] at *
  have TZ := own_alloc (own_refl w) (.cells #[.slice (some ⟨g, 0, none⟩) n c, .slice (some ⟨g', 0, none⟩) n c'] 28)
  have BZ : Box (w.alloc (.cells #[.slice (some ⟨g, 0, none⟩) n c, .slice (some ⟨g', 0, none⟩) n c'] 28)) w.heap.size [.slice (some ⟨g, 0, none⟩) n c, .slice (some ⟨g', 0, none⟩) n c'] := Box.new _ _ _
  have n1 : ¬ w.heap.size = g := by omega
  have n2 : ¬ w.heap.size = g' := by omega
  have n3 : ¬ g = w.heap.size := by omega
  have n4 : ¬ g' = w.heap.size := by omega
  clear hs ht ha hb hg hg' h1 h2 h3 h4 h5 h6
  rcases hc.five with rfl | rfl | rfl | rfl | rfl
  · show Calls Tryd.prog 24 #[_, .int .u8 83, _] w _
    rw [show stL s t n 83 i = pt s i by simp [stL]]
    generalize pt s i = x at *
    clear k2 k4 k5 k6
    go_enter Tryd.func24, Tryd.ntmps24
    go_wp2
    go_ret
    exact ⟨rfl, TZ⟩
  · show Calls Tryd.prog 24 #[_, .int .u8 84, _] w _
    rw [show stL s t n 84 i = pt t i by simp [stL]]
    generalize pt t i = x at *
    clear k1 k4 k5 k6
    go_enter Tryd.func24, Tryd.ntmps24
    go_wp2
    go_ret
    exact ⟨rfl, TZ⟩
  · show Calls Tryd.prog 24 #[_, .int .u8 116, _] w _
    rw [show stL s t n 116 i = bk t i n by simp [stL]]
    have HBi := Lib.hid (HB.out i hi)
    generalize bk t i n = x at *
    clear k1 k2 k4 k5 k6
    go_enter Tryd.func24, Tryd.ntmps24
    go_wp2_with fail
    refine (HBi.out _ TZ).mono ?_
    rintro e w2 ⟨rfl, hb2⟩
    go_wp2
    go_ret
    exact ⟨rfl, own_trans TZ hb2⟩
  · show Calls Tryd.prog 24 #[_, .int .u8 76, _] w _
    rw [show stL s t n 76 i = pt s (bk t (pt s i) n) by simp [stL]]
    have HBi := Lib.hid (HB.out _ q1)
    generalize pt s (bk t (pt s i) n) = z at *
    generalize bk t (pt s i) n = y at *
    generalize pt s i = x at *
    clear k2 k5 k6
    have kz : Cs2 (w.alloc (.cells #[.slice (some ⟨g, 0, none⟩) n c, .slice (some ⟨g', 0, none⟩) n c'] 28)) g i y x z := ⟨(TZ.cell (p := ⟨g, i, none⟩) lg).trans k1, (TZ.cell (p := ⟨g, y, none⟩) lg).trans k4⟩
    have lgz : g < (w.alloc (.cells #[.slice (some ⟨g, 0, none⟩) n c, .slice (some ⟨g', 0, none⟩) n c'] 28)).heap.size := by simp; omega
    go_enter Tryd.func24, Tryd.ntmps24
    go_upto_region 9 with fail
    generalize w.alloc (.cells #[.slice (some ⟨g, 0, none⟩) n c, .slice (some ⟨g', 0, none⟩) n c'] 28) = w0 at *
    obtain ⟨-, b0, b1, -, -⟩ := BZ.two
    obtain ⟨z1, z2⟩ := kz
    go_region_held3 (fun w' => w'.cell? ⟨w.heap.size, 0, none⟩ = some (.slice (some ⟨g, 0, none⟩) n c) ∧ w'.cell? ⟨w.heap.size, 1, none⟩ = some (.slice (some ⟨g', 0, none⟩) n c') ∧ w'.cell? ⟨g, i, none⟩ = some (.int .i64 ((x : Int))) ∧ w'.cell? ⟨g, y, none⟩ = some (.int .i64 ((z : Int)))) (go_keep)
      (first
        | (go_at_call 53; (with_reducible refine (HBi.out _ (own_drew TZ)).mono ?_); rintro e w2 ⟨rfl, hb2⟩; have T2 := own_trans (own_drew TZ) hb2; have B2 := (BZ.drew).below hb2; obtain ⟨-, c20, c21, -, -⟩ := B2.two; have y1 := (hb2.cell (p := ⟨g, i, none⟩) lgz).trans z1; have y2 := (hb2.cell (p := ⟨g, y, none⟩) lgz).trans z2; clear hb2))
    all_goals
      go_wp2
      go_ret
      exact ⟨rfl, T2⟩
  · show Calls Tryd.prog 24 #[_, .int .u8 108, _] w _
    rw [show stL s t n 108 i = pt s (pt t (pt s i)) by simp [stL]]
    generalize pt s (pt t (pt s i)) = z at *
    generalize pt t (pt s i) = y at *
    generalize pt s i = x at *
    clear k2 k4
    have z1 := (TZ.cell (p := ⟨g, i, none⟩) lg).trans k1
    have z2 := (TZ.cell (p := ⟨g', x, none⟩) lg').trans k5
    have z3 := (TZ.cell (p := ⟨g, y, none⟩) lg).trans k6
    go_enter Tryd.func24, Tryd.ntmps24
    go_upto_region 10 with fail
    generalize w.alloc (.cells #[.slice (some ⟨g, 0, none⟩) n c, .slice (some ⟨g', 0, none⟩) n c'] 28) = w0 at *
    obtain ⟨-, b0, b1, -, -⟩ := BZ.two
    go_quiet (fail)
    go_wp2
    go_ret
    exact ⟨rfl, below_drewN' TZ _⟩
end Go.Proofs.YtfchfakkbdfajaaDoor
