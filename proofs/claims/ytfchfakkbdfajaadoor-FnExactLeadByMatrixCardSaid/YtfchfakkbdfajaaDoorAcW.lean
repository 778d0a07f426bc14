/- A word's lead. -/
import Derived.Test.YtfchfakkbdfajaaDoorAcL
import Derived.Test.YtfchfakkbdfajaaDoorIdxS
namespace Go.Proofs.YtfchfakkbdfajaaDoor
open Go.ChangeShapes Go.WideShapes Go.ChangeAt Go.RowKit

/-- the letters of words -/
def Ltr (c : UInt8) : Prop := c = 83 ∨ c = 84 ∨ c = 116 ∨ c = 76 ∨ c = 108
theorem stL_lt {s t : List Int} {n : Nat} (hs : Pm s n) (ht : Pm t n) (c : UInt8) {i : Nat} (hi : i < n) : stL s t n c i < n := by
  have h1 := (hs.at hi).2
  have h2 := (ht.at hi).2
  have h3 := (bk_lt ht hi).2
  have h4 := (hs.at (bk_lt ht h1).2).2
  have h5 := (hs.at (ht.at h1).2).2
  unfold stL
  split
  · exact h1
  · split
    · exact h2
    · split
      · exact h3
      · split
        · exact h4
        · exact h5
theorem stW_lt {s t : List Int} {n : Nat} (hs : Pm s n) (ht : Pm t n) : ∀ (l : List UInt8) {i : Nat}, i < n → stW s t n l i < n
  | [], _, h => h
  | c :: r, _, h => stW_lt hs ht r (stL_lt hs ht c h)
theorem dropU_at {xs : List UInt8} {k : Nat} (h : k < xs.length) : xs.drop k = xs[k] :: xs.drop (k + 1) := List.drop_eq_getElem_cons h
set_option maxHeartbeats 8000000 in
theorem lead_is (a b : Value) (s t : List Int) (n : Nat) (hn : n ≤ 1000000) (hs : Pm s n) (ht : Pm t n) (bs : ByteArray) (hl : ∀ k (h : k < bs.size), Ltr bs[k]) (hbl : bs.size ≤ 1000) (i : Nat) (hi : i < n) (w : World) (ha : Rl w a s) (hb : Rl w b t) :
    Calls Tryd.prog 30 #[.agg #[a, b], .string bs, (.int .i64 ((i : Int)))] w fun e w' => e = .returned (.int .i64 (((stW s t n bs.data.toList i : Nat) : Int))) ∧ Below w.heap.size w w' := by
  have n0 : 0 < s.length := by rw [hs.len]; omega
  have n1 : 0 < t.length := by rw [ht.len]; omega
  have H0 := Lib.hid (fun i (hi : i < n) w' (h : Below w.heap.size w w') => byS_is a b s t n hs ht i hi w' (ha.below h) (hb.below h))
  have X0 : ∀ w, Calls Tryd.prog 59 #[.string ⟨#[83, 84, 116, 76, 108]⟩, .int .u8 83] w fun e w' => e = .returned (.int .i64 0) ∧ w' = w := fun w => indexByte_is ⟨#[83, 84, 116, 76, 108]⟩ 83 w
  have X0 := Lib.hid X0
  have H1 := Lib.hid (fun i (hi : i < n) w' (h : Below w.heap.size w w') => byT_is a b s t n hs ht i hi w' (ha.below h) (hb.below h))
  have X1 : ∀ w, Calls Tryd.prog 59 #[.string ⟨#[83, 84, 116, 76, 108]⟩, .int .u8 84] w fun e w' => e = .returned (.int .i64 1) ∧ w' = w := fun w => indexByte_is ⟨#[83, 84, 116, 76, 108]⟩ 84 w
  have X1 := Lib.hid X1
  have H2 := Lib.hid (fun i (hi : i < n) w' (h : Below w.heap.size w w') => backT_is a b s t n hn hs ht i hi w' (ha.below h) (hb.below h))
  have X2 : ∀ w, Calls Tryd.prog 59 #[.string ⟨#[83, 84, 116, 76, 108]⟩, .int .u8 116] w fun e w' => e = .returned (.int .i64 2) ∧ w' = w := fun w => indexByte_is ⟨#[83, 84, 116, 76, 108]⟩ 116 w
  have X2 := Lib.hid X2
  have H3 := Lib.hid (fun i (hi : i < n) w' (h : Below w.heap.size w w') => byL_is a b s t n hn hs ht i hi w' (ha.below h) (hb.below h))
  have X3 : ∀ w, Calls Tryd.prog 59 #[.string ⟨#[83, 84, 116, 76, 108]⟩, .int .u8 76] w fun e w' => e = .returned (.int .i64 3) ∧ w' = w := fun w => indexByte_is ⟨#[83, 84, 116, 76, 108]⟩ 76 w
  have X3 := Lib.hid X3
  have H4 := Lib.hid (fun i (hi : i < n) w' (h : Below w.heap.size w w') => backL_is a b s t n hs ht i hi w' (ha.below h) (hb.below h))
  have X4 : ∀ w, Calls Tryd.prog 59 #[.string ⟨#[83, 84, 116, 76, 108]⟩, .int .u8 108] w fun e w' => e = .returned (.int .i64 4) ∧ w' = w := fun w => indexByte_is ⟨#[83, 84, 116, 76, 108]⟩ 108 w
  have X4 := Lib.hid X4
  have HLT := Lib.hid (fun (c : UInt8) (j : Nat) (h : j < n) => stL_lt hs ht c h)
  obtain ⟨g, c, rfl, _⟩ := ha.at n0
  obtain ⟨g', c', rfl, _⟩ := hb.at n1
  have HL := Lib.hid hl
  have HW : Hid (stW s t n (bs.data.toList.drop 0) i = stW s t n bs.data.toList i) := Lib.hid rfl
  rw [hs.len, ht.len] at *
  generalize stW s t n bs.data.toList i = res at *
  clear hs ht ha hb hl n0 n1
  have B0 : Box (w.alloc (.cells #[.slice (some ⟨g, 0, none⟩) n c, .slice (some ⟨g', 0, none⟩) n c'] 28)) w.heap.size [.slice (some ⟨g, 0, none⟩) n c, .slice (some ⟨g', 0, none⟩) n c'] := Box.new _ _ _
  have T0 := own_alloc (own_refl w) (.cells #[.slice (some ⟨g, 0, none⟩) n c, .slice (some ⟨g', 0, none⟩) n c'] 28)
  have hsz : (w.alloc (.cells #[.slice (some ⟨g, 0, none⟩) n c, .slice (some ⟨g', 0, none⟩) n c'] 28)).heap.size = w.heap.size + 1 := by simp
  go_enter Tryd.func30, Tryd.ntmps30
  go_wp2_with fail
  generalize w.alloc (.cells #[.slice (some ⟨g, 0, none⟩) n c, .slice (some ⟨g', 0, none⟩) n c'] 28) = w0 at *
  refine (leads_is _).mono ?_
  rintro e w1 ⟨rfl, hb1, BL⟩
  have B1 := B0.below hb1
  have T1 := own_trans T0 hb1
  rw [hsz] at BL ⊢
  clear hb1 hsz
  go_wp2
  go_loopw [2, 12] (fun x i wr => ∃ (k j : Nat), k ≤ bs.size ∧ i = (.int .i64 ((k : Int))) ∧ x = (.int .i64 ((j : Int))) ∧ j < n ∧ Hid (stW s t n (bs.data.toList.drop k) j = res) ∧ Below w.heap.size w wr ∧
    Box wr w.heap.size [.slice (some ⟨g, 0, none⟩) n c, .slice (some ⟨g', 0, none⟩) n c'] ∧
    Box wr (w.heap.size + 1) [.func (.func 46) #[] #[], .func (.func 74) #[] #[], .func (.func 81) #[] #[], .func (.func 82) #[] #[], .func (.func 83) #[] #[]]) (fun _ i _ => bs.size - (intOf i).toNat)
  case atStart => exact ⟨0, i, Nat.zero_le _, rfl, rfl, hi, HW, T1, B1, BL⟩
  case round =>
    obtain ⟨k, j, hk, rfl, rfl, hj, HK, T, B, BF⟩ := hrel
    clear T1 B1 BL T0 B0 HW hi
    obtain ⟨-, c0, c1, -, -⟩ := B.two
    by_cases hlt : k < bs.size
    · have hxl : k < bs.data.toList.length := by rw [str_len]; exact hlt
      have HD : Hid (stW s t n (bs.data.toList.drop (k + 1)) (stL s t n bs[k] j) = res) := Lib.hid (by
        have h := HK.out
        rw [dropU_at hxl, str_at bs k hlt hxl] at h
        exact h)
      have hj2 := HLT.out bs[k] j hj
      clear HK
      rcases HL.out k hlt with h | h | h | h | h
      · have hix := idx_lit bs k 83 hlt h
        rw [h, show stL s t n 83 j = pt s j by simp [stL]] at HD hj2
        have HF := Lib.hid (H0.out j hj)
        have ej : ([.func (.func 46) #[] #[], .func (.func 74) #[] #[], .func (.func 81) #[] #[], .func (.func 82) #[] #[], .func (.func 83) #[] #[]] : List Value)[0]? = some (.func (.func 46) #[] #[]) := rfl
        have EJ := Lib.hid ej
        have cf := (BF.2 0 _ ej).1
        clear ej
        clear h
        generalize pt s j = j2 at *
        go_wp2_with fail
        go_region_held3 (fun w' => w'.cell? ⟨w.heap.size, 0, none⟩ = some (.slice (some ⟨g, 0, none⟩) n c) ∧ w'.cell? ⟨w.heap.size, 1, none⟩ = some (.slice (some ⟨g', 0, none⟩) n c') ∧ w'.cell? ⟨w.heap.size + 1, 0, none⟩ = some (.func (.func 46) #[] #[])) (go_keep)
          (first
            | (go_at_call 59; (with_reducible refine (X0.out _).mono ?_); rintro e w2 ⟨rfl, rfl⟩)
            | (go_at_call 46; (with_reducible refine (HF.out _ (by repeat (first | with_reducible exact own_refl _ | with_reducible assumption | with_reducible apply own_alloc | with_reducible apply own_drewN | with_reducible apply own_drew | ((with_reducible refine own_setCell ?_ ?_ _); rotate_left; focus (first | (simp; done) | (simp; omega))) | (with_reducible (refine own_trans ?_ (by assumption)))))).mono ?_); rintro e w2 ⟨rfl, hb2⟩; have T2 := own_trans (own_drew T) hb2; have B2 := (B.drew).below hb2; have BF2 := (BF.drew).below hb2; obtain ⟨-, c20, c21, -, -⟩ := B2.two; have cf2 := (BF2.2 0 _ EJ.out).1; clear hb2))
        all_goals
          go_wp2
          go_roundw
          case rel => exact ⟨k + 1, j2, by omega, by go_num, rfl, hj2, HD, T2, B2, BF2⟩
          case measure => simp [intOf]; omega
      · have hix := idx_lit bs k 84 hlt h
        rw [h, show stL s t n 84 j = pt t j by simp [stL]] at HD hj2
        have HF := Lib.hid (H1.out j hj)
        have ej : ([.func (.func 46) #[] #[], .func (.func 74) #[] #[], .func (.func 81) #[] #[], .func (.func 82) #[] #[], .func (.func 83) #[] #[]] : List Value)[1]? = some (.func (.func 74) #[] #[]) := rfl
        have EJ := Lib.hid ej
        have cf := (BF.2 1 _ ej).1
        clear ej
        clear h
        generalize pt t j = j2 at *
        go_wp2_with fail
        go_region_held3 (fun w' => w'.cell? ⟨w.heap.size, 0, none⟩ = some (.slice (some ⟨g, 0, none⟩) n c) ∧ w'.cell? ⟨w.heap.size, 1, none⟩ = some (.slice (some ⟨g', 0, none⟩) n c') ∧ w'.cell? ⟨w.heap.size + 1, 1, none⟩ = some (.func (.func 74) #[] #[])) (go_keep)
          (first
            | (go_at_call 59; (with_reducible refine (X1.out _).mono ?_); rintro e w2 ⟨rfl, rfl⟩)
            | (go_at_call 74; (with_reducible refine (HF.out _ (by repeat (first | with_reducible exact own_refl _ | with_reducible assumption | with_reducible apply own_alloc | with_reducible apply own_drewN | with_reducible apply own_drew | ((with_reducible refine own_setCell ?_ ?_ _); rotate_left; focus (first | (simp; done) | (simp; omega))) | (with_reducible (refine own_trans ?_ (by assumption)))))).mono ?_); rintro e w2 ⟨rfl, hb2⟩; have T2 := own_trans (own_drew T) hb2; have B2 := (B.drew).below hb2; have BF2 := (BF.drew).below hb2; obtain ⟨-, c20, c21, -, -⟩ := B2.two; have cf2 := (BF2.2 1 _ EJ.out).1; clear hb2))
        all_goals
          go_wp2
          go_roundw
          case rel => exact ⟨k + 1, j2, by omega, by go_num, rfl, hj2, HD, T2, B2, BF2⟩
          case measure => simp [intOf]; omega
      · have hix := idx_lit bs k 116 hlt h
        rw [h, show stL s t n 116 j = bk t j n by simp [stL]] at HD hj2
        have HF := Lib.hid (H2.out j hj)
        have ej : ([.func (.func 46) #[] #[], .func (.func 74) #[] #[], .func (.func 81) #[] #[], .func (.func 82) #[] #[], .func (.func 83) #[] #[]] : List Value)[2]? = some (.func (.func 81) #[] #[]) := rfl
        have EJ := Lib.hid ej
        have cf := (BF.2 2 _ ej).1
        clear ej
        clear h
        generalize bk t j n = j2 at *
        go_wp2_with fail
        go_region_held3 (fun w' => w'.cell? ⟨w.heap.size, 0, none⟩ = some (.slice (some ⟨g, 0, none⟩) n c) ∧ w'.cell? ⟨w.heap.size, 1, none⟩ = some (.slice (some ⟨g', 0, none⟩) n c') ∧ w'.cell? ⟨w.heap.size + 1, 2, none⟩ = some (.func (.func 81) #[] #[])) (go_keep)
          (first
            | (go_at_call 59; (with_reducible refine (X2.out _).mono ?_); rintro e w2 ⟨rfl, rfl⟩)
            | (go_at_call 81; (with_reducible refine (HF.out _ (by repeat (first | with_reducible exact own_refl _ | with_reducible assumption | with_reducible apply own_alloc | with_reducible apply own_drewN | with_reducible apply own_drew | ((with_reducible refine own_setCell ?_ ?_ _); rotate_left; focus (first | (simp; done) | (simp; omega))) | (with_reducible (refine own_trans ?_ (by assumption)))))).mono ?_); rintro e w2 ⟨rfl, hb2⟩; have T2 := own_trans (own_drew T) hb2; have B2 := (B.drew).below hb2; have BF2 := (BF.drew).below hb2; obtain ⟨-, c20, c21, -, -⟩ := B2.two; have cf2 := (BF2.2 2 _ EJ.out).1; clear hb2))
        all_goals
          go_wp2
          go_roundw
          case rel => exact ⟨k + 1, j2, by omega, by go_num, rfl, hj2, HD, T2, B2, BF2⟩
          case measure => simp [intOf]; omega
      · have hix := idx_lit bs k 76 hlt h
        rw [h, show stL s t n 76 j = pt s (bk t (pt s j) n) by simp [stL]] at HD hj2
        have HF := Lib.hid (H3.out j hj)
        have ej : ([.func (.func 46) #[] #[], .func (.func 74) #[] #[], .func (.func 81) #[] #[], .func (.func 82) #[] #[], .func (.func 83) #[] #[]] : List Value)[3]? = some (.func (.func 82) #[] #[]) := rfl
        have EJ := Lib.hid ej
        have cf := (BF.2 3 _ ej).1
        clear ej
        clear h
        generalize pt s (bk t (pt s j) n) = j2 at *
        go_wp2_with fail
        go_region_held3 (fun w' => w'.cell? ⟨w.heap.size, 0, none⟩ = some (.slice (some ⟨g, 0, none⟩) n c) ∧ w'.cell? ⟨w.heap.size, 1, none⟩ = some (.slice (some ⟨g', 0, none⟩) n c') ∧ w'.cell? ⟨w.heap.size + 1, 3, none⟩ = some (.func (.func 82) #[] #[])) (go_keep)
          (first
            | (go_at_call 59; (with_reducible refine (X3.out _).mono ?_); rintro e w2 ⟨rfl, rfl⟩)
            | (go_at_call 82; (with_reducible refine (HF.out _ (by repeat (first | with_reducible exact own_refl _ | with_reducible assumption | with_reducible apply own_alloc | with_reducible apply own_drewN | with_reducible apply own_drew | ((with_reducible refine own_setCell ?_ ?_ _); rotate_left; focus (first | (simp; done) | (simp; omega))) | (with_reducible (refine own_trans ?_ (by assumption)))))).mono ?_); rintro e w2 ⟨rfl, hb2⟩; have T2 := own_trans (own_drew T) hb2; have B2 := (B.drew).below hb2; have BF2 := (BF.drew).below hb2; obtain ⟨-, c20, c21, -, -⟩ := B2.two; have cf2 := (BF2.2 3 _ EJ.out).1; clear hb2))
        all_goals
          go_wp2
          go_roundw
          case rel => exact ⟨k + 1, j2, by omega, by go_num, rfl, hj2, HD, T2, B2, BF2⟩
          case measure => simp [intOf]; omega
      · have hix := idx_lit bs k 108 hlt h
        rw [h, show stL s t n 108 j = pt s (pt t (pt s j)) by simp [stL]] at HD hj2
        have HF := Lib.hid (H4.out j hj)
        have ej : ([.func (.func 46) #[] #[], .func (.func 74) #[] #[], .func (.func 81) #[] #[], .func (.func 82) #[] #[], .func (.func 83) #[] #[]] : List Value)[4]? = some (.func (.func 83) #[] #[]) := rfl
        have EJ := Lib.hid ej
        have cf := (BF.2 4 _ ej).1
        clear ej
        clear h
        generalize pt s (pt t (pt s j)) = j2 at *
        go_wp2_with fail
        go_region_held3 (fun w' => w'.cell? ⟨w.heap.size, 0, none⟩ = some (.slice (some ⟨g, 0, none⟩) n c) ∧ w'.cell? ⟨w.heap.size, 1, none⟩ = some (.slice (some ⟨g', 0, none⟩) n c') ∧ w'.cell? ⟨w.heap.size + 1, 4, none⟩ = some (.func (.func 83) #[] #[])) (go_keep)
          (first
            | (go_at_call 59; (with_reducible refine (X4.out _).mono ?_); rintro e w2 ⟨rfl, rfl⟩)
            | (go_at_call 83; (with_reducible refine (HF.out _ (by repeat (first | with_reducible exact own_refl _ | with_reducible assumption | with_reducible apply own_alloc | with_reducible apply own_drewN | with_reducible apply own_drew | ((with_reducible refine own_setCell ?_ ?_ _); rotate_left; focus (first | (simp; done) | (simp; omega))) | (with_reducible (refine own_trans ?_ (by assumption)))))).mono ?_); rintro e w2 ⟨rfl, hb2⟩; have T2 := own_trans (own_drew T) hb2; have B2 := (B.drew).below hb2; have BF2 := (BF.drew).below hb2; obtain ⟨-, c20, c21, -, -⟩ := B2.two; have cf2 := (BF2.2 4 _ EJ.out).1; clear hb2))
        all_goals
          go_wp2
          go_roundw
          case rel => exact ⟨k + 1, j2, by omega, by go_num, rfl, hj2, HD, T2, B2, BF2⟩
          case measure => simp [intOf]; omega
    · have HE : Hid (((j : Nat) : Int) = (res : Int)) := Lib.hid (by
        have h := HK.out
        rw [List.drop_eq_nil_of_le (by rw [str_len]; omega)] at h
        have h2 : j = res := h
        rw [h2])
      go_wp2
      go_ret
      exact ⟨ret_int HE.out, T⟩
end Go.Proofs.YtfchfakkbdfajaaDoor
