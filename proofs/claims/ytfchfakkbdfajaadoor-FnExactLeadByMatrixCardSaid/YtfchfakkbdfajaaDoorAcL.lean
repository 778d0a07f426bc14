/- Points led by letters: the program's functions. -/
import Derived.Test.YtfchfakkbdfajaaDoorAcO
import Derived.Test.YtfchfakkbdfajaaDoorAcC
import Derived.Lib.Bytealg
namespace Go.Proofs.YtfchfakkbdfajaaDoor
open Go.ChangeShapes Go.WideShapes Go.ChangeAt Go.RowKit

/-- a letter's lead -/
def stL (s t : List Int) (n : Nat) (c : UInt8) (i : Nat) : Nat :=
  if c = 83 then pt s i else if c = 84 then pt t i else if c = 116 then bk t i n else if c = 76 then pt s (bk t (pt s i) n) else pt s (pt t (pt s i))
/-- a word's lead -/
def stW (s t : List Int) (n : Nat) : List UInt8 → Nat → Nat
  | [], i => i
  | c :: r, i => stW s t n r (stL s t n c i)
theorem Rl.at {w : World} {v : Value} {xs : List Int} (h : Rl w v xs) (h0 : 0 < xs.length) : ∃ g cap, v = .slice (some ⟨g, 0, none⟩) xs.length cap ∧ Rc w g xs := by
  obtain ⟨ad, cap, rfl, hr⟩ := h
  obtain ⟨g, rfl, hc⟩ := hr h0
  exact ⟨g, cap, rfl, hc⟩
theorem byS_is (a b : Value) (s t : List Int) (n : Nat) (hs : Pm s n) (ht : Pm t n) (i : Nat) (hi : i < n) (w : World) (ha : Rl w a s) (hb : Rl w b t) :
    Calls Tryd.prog 46 #[.agg #[a, b], (.int .i64 ((i : Int)))] w fun e w' => e = .returned (.int .i64 (((pt s i : Nat) : Int))) ∧ Below w.heap.size w w' := by
  obtain ⟨g, c, rfl, hg⟩ := ha.at (by rw [hs.len]; omega)
  obtain ⟨g', c', rfl, _⟩ := hb.at (by rw [ht.len]; omega)
  have c1 := hg.2 i (by rw [hs.len]; exact hi)
  rw [(hs.at hi).1] at c1
  have hgl := hg.1
  rw [hs.len, ht.len]
  clear hs ht ha hb hg
  go_enter Tryd.func46, Tryd.ntmps46
  go_wp2
  go_ret
  exact ⟨rfl, by repeat (first | with_reducible exact own_refl _ | with_reducible assumption | with_reducible apply own_alloc | with_reducible apply own_drewN | with_reducible apply own_drew | ((with_reducible refine own_setCell ?_ ?_ _); rotate_left; focus (first | (simp; done) | (simp; omega))) | (with_reducible (refine own_trans ?_ (by assumption))))⟩
theorem byT_is (a b : Value) (s t : List Int) (n : Nat) (hs : Pm s n) (ht : Pm t n) (i : Nat) (hi : i < n) (w : World) (ha : Rl w a s) (hb : Rl w b t) :
    Calls Tryd.prog 74 #[.agg #[a, b], (.int .i64 ((i : Int)))] w fun e w' => e = .returned (.int .i64 (((pt t i : Nat) : Int))) ∧ Below w.heap.size w w' := by
  obtain ⟨g, c, rfl, _⟩ := ha.at (by rw [hs.len]; omega)
  obtain ⟨g', c', rfl, hg⟩ := hb.at (by rw [ht.len]; omega)
  have c1 := hg.2 i (by rw [ht.len]; exact hi)
  rw [(ht.at hi).1] at c1
  have hgl := hg.1
  rw [hs.len, ht.len]
  clear hs ht ha hb hg
  go_enter Tryd.func74, Tryd.ntmps74
  go_wp2
  go_ret
  exact ⟨rfl, by repeat (first | with_reducible exact own_refl _ | with_reducible assumption | with_reducible apply own_alloc | with_reducible apply own_drewN | with_reducible apply own_drew | ((with_reducible refine own_setCell ?_ ?_ _); rotate_left; focus (first | (simp; done) | (simp; omega))) | (with_reducible (refine own_trans ?_ (by assumption))))⟩
set_option maxHeartbeats 1000000 in
/-- slices.Index where the number is there once -/
theorem index64_is (g cap : Nat) (xs : List Int) (n j : Nat) (hn : n ≤ 1000000) (hx : Pm xs n) (hj : j < n) (w : World) (hg : Rc w g xs) :
    Calls Tryd.prog 91 #[.slice (some ⟨g, 0, none⟩) n cap, (.int .i64 (((pt xs j : Nat) : Int)))] w fun e w' => e = .returned (.int .i64 ((j : Int))) ∧ Below w.heap.size w w' := by
  have HG := Lib.hid hg
  have HX := Lib.hid hx
  obtain ⟨y, hy⟩ : ∃ y : Nat, pt xs j = y := ⟨_, rfl⟩
  have HY := Lib.hid hy
  rw [hy]
  clear hg hx hy
  go_enter Tryd.func91, Tryd.ntmps91
  go_wp2
  go_loopw [8] (fun i wr => ∃ k : Nat, k ≤ j ∧ i = (.int .i64 ((k : Int))) ∧ Below w.heap.size w wr) (fun i _ => n - (intOf i).toNat)
  case atStart => exact ⟨0, Nat.zero_le _, rfl, own_refl _⟩
  case round =>
    obtain ⟨k, hk, rfl, T⟩ := hrel
    have hkn : k < n := by omega
    have c1 := (HG.out.below T).2 k (by rw [HX.out.len]; exact hkn)
    rw [(HX.out.at hkn).1] at c1
    by_cases e : pt xs k = y
    · have HK : Hid (k = j) := Lib.hid (HX.out.inj hkn hj (e.trans HY.out.symm))
      rw [e] at c1
      clear e
      go_wp2
      go_ret
      exact ⟨ret_int (by rw [HK.out]), T⟩
    · have HK : Hid (k ≠ j) := Lib.hid (fun h => e (by rw [h]; exact HY.out))
      obtain ⟨z, hz⟩ : ∃ z, pt xs k = z := ⟨_, rfl⟩
      rw [hz] at c1 e
      clear hz
      go_wp2
      go_roundw
      case rel => exact ⟨k + 1, by have := HK.out; omega, by go_num, T⟩
      case measure => simp [intOf]; omega
theorem backT_is (a b : Value) (s t : List Int) (n : Nat) (hn : n ≤ 1000000) (hs : Pm s n) (ht : Pm t n) (i : Nat) (hi : i < n) (w : World) (ha : Rl w a s) (hb : Rl w b t) :
    Calls Tryd.prog 81 #[.agg #[a, b], (.int .i64 ((i : Int)))] w fun e w' => e = .returned (.int .i64 (((bk t i n : Nat) : Int))) ∧ Below w.heap.size w w' := by
  obtain ⟨h1, h2⟩ := bk_lt ht hi
  obtain ⟨g, c, rfl, _⟩ := ha.at (by rw [hs.len]; omega)
  obtain ⟨g', c', rfl, hg⟩ := hb.at (by rw [ht.len]; omega)
  have HI := Lib.hid (fun w' (h : Below w.heap.size w w') => index64_is g' c' t n (bk t i n) hn ht h2 w' (hg.below h))
  rw [h1] at HI
  rw [hs.len, ht.len]
  clear hs ht ha hb hg h1 h2
  generalize bk t i n = j at *
  go_enter Tryd.func81, Tryd.ntmps81
  go_wp2_with fail
  refine (HI.out _ (by repeat (first | with_reducible exact own_refl _ | with_reducible assumption | with_reducible apply own_alloc | with_reducible apply own_drewN | with_reducible apply own_drew | ((with_reducible refine own_setCell ?_ ?_ _); rotate_left; focus (first | (simp; done) | (simp; omega))) | (with_reducible (refine own_trans ?_ (by assumption)))))).mono ?_
  rintro e w2 ⟨rfl, hb2⟩
  go_wp2
  go_ret
  exact ⟨rfl, by repeat (first | with_reducible exact own_refl _ | with_reducible assumption | with_reducible apply own_alloc | with_reducible apply own_drewN | with_reducible apply own_drew | ((with_reducible refine own_setCell ?_ ?_ _); rotate_left; focus (first | (simp; done) | (simp; omega))) | (with_reducible (refine own_trans ?_ (by assumption))))⟩
theorem leads_is (w : World) : Calls Tryd.prog 58 #[] w fun e w' => e = .returned (.slice (some ⟨w.heap.size, 0, none⟩) 5 5) ∧ Below w.heap.size w w' ∧
    Box w' w.heap.size [.func (.func 46) #[] #[], .func (.func 74) #[] #[], .func (.func 81) #[] #[], .func (.func 82) #[] #[], .func (.func 83) #[] #[]] := by
  go_enter Tryd.func58, Tryd.ntmps58
  go_wp2
  go_ret
  exact ⟨rfl, by repeat (first | with_reducible exact own_refl _ | with_reducible assumption | with_reducible apply own_alloc | with_reducible apply own_drewN | with_reducible apply own_drew | ((with_reducible refine own_setCell ?_ ?_ _); rotate_left; focus (first | (simp; done) | (simp; omega))) | (with_reducible (refine own_trans ?_ (by assumption)))), Box.new _ _ _⟩

set_option maxHeartbeats 2000000 in
theorem byL_is (a b : Value) (s t : List Int) (n : Nat) (hn : n ≤ 1000000) (hs : Pm s n) (ht : Pm t n) (i : Nat) (hi : i < n) (w : World) (ha : Rl w a s) (hb : Rl w b t) :
    Calls Tryd.prog 82 #[.agg #[a, b], (.int .i64 ((i : Int)))] w fun e w' => e = .returned (.int .i64 (((pt s (bk t (pt s i) n) : Nat) : Int))) ∧ Below w.heap.size w w' := by
  have h1 := (hs.at hi).2
  have h2 := (bk_lt ht h1).2
  have HS := Lib.hid (fun w' (h : Below w.heap.size w w') => byS_is a b s t n hs ht i hi w' (ha.below h) (hb.below h))
  have HT := Lib.hid (fun w' (h : Below w.heap.size w w') => backT_is a b s t n hn hs ht _ h1 w' (ha.below h) (hb.below h))
  have HU := Lib.hid (fun w' (h : Below w.heap.size w w') => byS_is a b s t n hs ht _ h2 w' (ha.below h) (hb.below h))
  obtain ⟨g, c, rfl, _⟩ := ha.at (by rw [hs.len]; omega)
  obtain ⟨g', c', rfl, _⟩ := hb.at (by rw [ht.len]; omega)
  rw [hs.len, ht.len] at *
  generalize pt s (bk t (pt s i) n) = j3 at *
  generalize bk t (pt s i) n = j2 at *
  generalize pt s i = j1 at *
  clear hs ht ha hb h1 h2
  have B0 : Box (w.alloc (.cells #[.slice (some ⟨g, 0, none⟩) n c, .slice (some ⟨g', 0, none⟩) n c'] 28)) w.heap.size [.slice (some ⟨g, 0, none⟩) n c, .slice (some ⟨g', 0, none⟩) n c'] := Box.new _ _ _
  obtain ⟨-, c0, c1, -, -⟩ := B0.two
  have T0 := own_alloc (own_refl w) (.cells #[.slice (some ⟨g, 0, none⟩) n c, .slice (some ⟨g', 0, none⟩) n c'] 28)
  go_enter Tryd.func82, Tryd.ntmps82
  go_wp2_with fail
  generalize w.alloc (.cells #[.slice (some ⟨g, 0, none⟩) n c, .slice (some ⟨g', 0, none⟩) n c'] 28) = w0 at *
  go_region_held3 (fun w' => w'.cell? ⟨w.heap.size, 0, none⟩ = some (.slice (some ⟨g, 0, none⟩) n c) ∧ w'.cell? ⟨w.heap.size, 1, none⟩ = some (.slice (some ⟨g', 0, none⟩) n c')) (go_keep)
    (first
      | (go_at_call 46; with_reducible refine (HU.out _ (by repeat (first | with_reducible exact own_refl _ | with_reducible assumption | with_reducible apply own_alloc | with_reducible apply own_drewN | with_reducible apply own_drew | ((with_reducible refine own_setCell ?_ ?_ _); rotate_left; focus (first | (simp; done) | (simp; omega))) | (with_reducible (refine own_trans ?_ (by assumption)))))).mono ?_; rintro e w3 ⟨rfl, hb3⟩; have T3 := own_trans T2 hb3; have B3 := B2.below hb3; obtain ⟨-, c30, c31, -, -⟩ := B3.two; clear hb3)
      | (go_at_call 81; with_reducible refine (HT.out _ (by repeat (first | with_reducible exact own_refl _ | with_reducible assumption | with_reducible apply own_alloc | with_reducible apply own_drewN | with_reducible apply own_drew | ((with_reducible refine own_setCell ?_ ?_ _); rotate_left; focus (first | (simp; done) | (simp; omega))) | (with_reducible (refine own_trans ?_ (by assumption)))))).mono ?_; rintro e w2 ⟨rfl, hb2⟩; have T2 := own_trans T1 hb2; have B2 := B1.below hb2; obtain ⟨-, c20, c21, -, -⟩ := B2.two; clear hb2)
      | (go_at_call 46; with_reducible refine (HS.out _ (by repeat (first | with_reducible exact own_refl _ | with_reducible assumption | with_reducible apply own_alloc | with_reducible apply own_drewN | with_reducible apply own_drew | ((with_reducible refine own_setCell ?_ ?_ _); rotate_left; focus (first | (simp; done) | (simp; omega))) | (with_reducible (refine own_trans ?_ (by assumption)))))).mono ?_; rintro e w1 ⟨rfl, hb1⟩; have T1 := own_trans (own_drew T0) hb1; have B1 := (B0.drew).below hb1; obtain ⟨-, c10, c11, -, -⟩ := B1.two; clear hb1))
  all_goals
    go_wp2
    go_ret
    exact ⟨rfl, by repeat (first | with_reducible exact own_refl _ | with_reducible assumption | with_reducible apply own_alloc | with_reducible apply own_drewN | with_reducible apply own_drew | ((with_reducible refine own_setCell ?_ ?_ _); rotate_left; focus (first | (simp; done) | (simp; omega))) | (with_reducible (refine own_trans ?_ (by assumption))))⟩
set_option maxHeartbeats 2000000 in
theorem backL_is (a b : Value) (s t : List Int) (n : Nat) (hs : Pm s n) (ht : Pm t n) (i : Nat) (hi : i < n) (w : World) (ha : Rl w a s) (hb : Rl w b t) :
    Calls Tryd.prog 83 #[.agg #[a, b], (.int .i64 ((i : Int)))] w fun e w' => e = .returned (.int .i64 (((pt s (pt t (pt s i)) : Nat) : Int))) ∧ Below w.heap.size w w' := by
  have h1 := (hs.at hi).2
  have h2 := (ht.at h1).2
  have HS := Lib.hid (fun w' (h : Below w.heap.size w w') => byS_is a b s t n hs ht i hi w' (ha.below h) (hb.below h))
  have HT := Lib.hid (fun w' (h : Below w.heap.size w w') => byT_is a b s t n hs ht _ h1 w' (ha.below h) (hb.below h))
  have HU := Lib.hid (fun w' (h : Below w.heap.size w w') => byS_is a b s t n hs ht _ h2 w' (ha.below h) (hb.below h))
  obtain ⟨g, c, rfl, _⟩ := ha.at (by rw [hs.len]; omega)
  obtain ⟨g', c', rfl, _⟩ := hb.at (by rw [ht.len]; omega)
  rw [hs.len, ht.len] at *
  generalize pt s (pt t (pt s i)) = j3 at *
  generalize pt t (pt s i) = j2 at *
  generalize pt s i = j1 at *
  clear hs ht ha hb h1 h2
  have B0 : Box (w.alloc (.cells #[.slice (some ⟨g, 0, none⟩) n c, .slice (some ⟨g', 0, none⟩) n c'] 28)) w.heap.size [.slice (some ⟨g, 0, none⟩) n c, .slice (some ⟨g', 0, none⟩) n c'] := Box.new _ _ _
  obtain ⟨-, c0, c1, -, -⟩ := B0.two
  have T0 := own_alloc (own_refl w) (.cells #[.slice (some ⟨g, 0, none⟩) n c, .slice (some ⟨g', 0, none⟩) n c'] 28)
  go_enter Tryd.func83, Tryd.ntmps83
  go_wp2_with fail
  generalize w.alloc (.cells #[.slice (some ⟨g, 0, none⟩) n c, .slice (some ⟨g', 0, none⟩) n c'] 28) = w0 at *
  go_region_held3 (fun w' => w'.cell? ⟨w.heap.size, 0, none⟩ = some (.slice (some ⟨g, 0, none⟩) n c) ∧ w'.cell? ⟨w.heap.size, 1, none⟩ = some (.slice (some ⟨g', 0, none⟩) n c')) (go_keep)
    (first
      | (go_at_call 46; with_reducible refine (HU.out _ (by repeat (first | with_reducible exact own_refl _ | with_reducible assumption | with_reducible apply own_alloc | with_reducible apply own_drewN | with_reducible apply own_drew | ((with_reducible refine own_setCell ?_ ?_ _); rotate_left; focus (first | (simp; done) | (simp; omega))) | (with_reducible (refine own_trans ?_ (by assumption)))))).mono ?_; rintro e w3 ⟨rfl, hb3⟩; have T3 := own_trans T2 hb3; have B3 := B2.below hb3; obtain ⟨-, c30, c31, -, -⟩ := B3.two; clear hb3)
      | (go_at_call 74; with_reducible refine (HT.out _ (by repeat (first | with_reducible exact own_refl _ | with_reducible assumption | with_reducible apply own_alloc | with_reducible apply own_drewN | with_reducible apply own_drew | ((with_reducible refine own_setCell ?_ ?_ _); rotate_left; focus (first | (simp; done) | (simp; omega))) | (with_reducible (refine own_trans ?_ (by assumption)))))).mono ?_; rintro e w2 ⟨rfl, hb2⟩; have T2 := own_trans T1 hb2; have B2 := B1.below hb2; obtain ⟨-, c20, c21, -, -⟩ := B2.two; clear hb2)
      | (go_at_call 46; with_reducible refine (HS.out _ (by repeat (first | with_reducible exact own_refl _ | with_reducible assumption | with_reducible apply own_alloc | with_reducible apply own_drewN | with_reducible apply own_drew | ((with_reducible refine own_setCell ?_ ?_ _); rotate_left; focus (first | (simp; done) | (simp; omega))) | (with_reducible (refine own_trans ?_ (by assumption)))))).mono ?_; rintro e w1 ⟨rfl, hb1⟩; have T1 := own_trans (own_drew T0) hb1; have B1 := (B0.drew).below hb1; obtain ⟨-, c10, c11, -, -⟩ := B1.two; clear hb1))
  all_goals
    go_wp2
    go_ret
    exact ⟨rfl, by repeat (first | with_reducible exact own_refl _ | with_reducible assumption | with_reducible apply own_alloc | with_reducible apply own_drewN | with_reducible apply own_drew | ((with_reducible refine own_setCell ?_ ?_ _); rotate_left; focus (first | (simp; done) | (simp; omega))) | (with_reducible (refine own_trans ?_ (by assumption))))⟩

set_option maxRecDepth 100000 in
theorem liteIndex_is (s : ByteArray) (c : Int) (w : World) :
    Calls Tryd.prog 84 #[.string s, .int .u8 c] w fun e w' => e = .returned (.int .i64 (Lib.indexByte s.data.toList c.toNat.toUInt8)) ∧ w' = w := by
  go_enter Tryd.func84, Tryd.ntmps84
  go_wp2
  rw [run_callFunc_extern Tryd.func92 (by kernel_rfl) (by kernel_rfl) (by kernel_rfl) (e := Extern.BytealgIndexByte.indexByte) (by kernel_rfl), Lib.run_indexByteString]
  simp only [Result.andThen]
  rw [Oper.upon_value]
  go_wp2
  go_ret
  exact ⟨rfl, rfl⟩
theorem indexByte_is (s : ByteArray) (c : Int) (w : World) :
    Calls Tryd.prog 59 #[.string s, .int .u8 c] w fun e w' => e = .returned (.int .i64 (Lib.indexByte s.data.toList c.toNat.toUInt8)) ∧ w' = w := by
  go_enter Tryd.func59, Tryd.ntmps59
  go_wp2_with fail
  refine (liteIndex_is _ _ _).mono ?_
  rintro e w2 ⟨rfl, rfl⟩
  go_wp2
  go_ret
  exact ⟨rfl, rfl⟩
end Go.Proofs.YtfchfakkbdfajaaDoor
