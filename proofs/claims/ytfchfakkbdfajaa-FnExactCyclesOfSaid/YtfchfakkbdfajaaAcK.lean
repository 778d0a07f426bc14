/- Kept points: both sides. -/
import Derived.Test.YtfchfakkbdfajaaAcI
namespace Go.Proofs.Ytfchfakkbdfajaa
open Go.ChangeShapes Go.WideShapes Go.ChangeAt Go.RowKit

theorem isA_at (u : Value) (s t : List Int) (hsl : s.length ≤ 9223372036854775807) (w : World) (h : Ac w u s t) (w' : World) (hb : Below w.heap.size w w') :
    Calls Try.prog 14 #[u] w' fun e w'' => e = .returned (.bool (isA s t)) ∧ Below w'.heap.size w' w'' := by
  obtain ⟨a, b, rfl, ha, hb'⟩ := h.below hb
  exact implIsA_is a b s t hsl w' ha hb'
theorem l10Is_at (u : Value) (s t : List Int) (hsl : s.length ≤ 9223372036854775807) (w : World) (h : Ac w u s t) (w' : World) (hb : Below w.heap.size w w') :
    Calls Try.prog 39 #[u] w' fun e w'' => e = .returned (.bool (isA s t)) ∧ Below w'.heap.size w' w'' := by
  obtain ⟨a, b, rfl, ha, hb'⟩ := h.below hb
  exact l10Is_is a b s t hsl w' ha hb'
theorem Ac.shape {w : World} {u : Value} {s t : List Int} (h : Ac w u s t) : ∃ ad c ad' c', u = .agg #[.slice ad s.length c, .slice ad' t.length c'] := by
  obtain ⟨a, b, rfl, ⟨_, _, rfl, _⟩, ⟨_, _, rfl, _⟩⟩ := h
  exact ⟨_, _, _, _, rfl⟩
def cntP (p : Nat → Bool) : Nat → Nat
  | 0 => 0
  | k + 1 => if p k then cntP p k + 1 else cntP p k
theorem cntP_le (p : Nat → Bool) : ∀ k, cntP p k ≤ k
  | 0 => Nat.le_refl _
  | k + 1 => by
    have := cntP_le p k
    rw [cntP]
    split <;> omega
def kp2 (s : List Int) (i : Nat) : Bool := decide (pt s i = i)
def kp3 (s t : List Int) (i : Nat) : Bool := decide (pt s (pt t i) = i)
theorem ltrS1 : ∀ k (h : k < (⟨#[83]⟩ : ByteArray).size), Ltr (⟨#[83]⟩ : ByteArray)[k] := by
  intro k h
  have : k < 1 := h
  obtain rfl : k = 0 := by omega
  exact .inl rfl
theorem ltrTS1 : ∀ k (h : k < (⟨#[84, 83]⟩ : ByteArray).size), Ltr (⟨#[84, 83]⟩ : ByteArray)[k] := by
  intro k h
  have : k < 2 := h
  rcases (show k = 0 ∨ k = 1 by omega) with rfl | rfl
  · exact .inr (.inl rfl)
  · exact .inl rfl
set_option maxHeartbeats 4000000 in
theorem countKept_is (a b : Value) (s t : List Int) (n : Nat) (hn : n ≤ 1000) (hs : Pm s n) (ht : Pm t n) (h0 : 0 < n) (bs : ByteArray) (hl : ∀ k (h : k < bs.size), Ltr bs[k]) (hbl : bs.size ≤ 1000) (p : Nat → Bool) (hp : ∀ i, decide (stW s t n bs.data.toList i = i) = p i) (w : World) (ha : Rl w a s) (hb : Rl w b t) :
    Calls Try.prog 47 #[.agg #[a, b], .string bs] w fun e w' => e = .returned (.int .i64 (((cntP p n : Nat) : Int))) ∧ Below w.heap.size w w' := by
  have HL := Lib.hid (fun i (hi : i < n) w' (h : Below w.heap.size w w') => lead_is a b s t n (by omega) hs ht bs hl hbl i hi w' (ha.below h) (hb.below h))
  obtain ⟨g, c, rfl, _⟩ := ha.at (by rw [hs.len]; omega)
  obtain ⟨g', c', rfl, _⟩ := hb.at (by rw [ht.len]; omega)
  rw [hs.len, ht.len] at *
  have HP := Lib.hid hp
  clear hs ht ha hb hp hl
  have B0 : Box (w.alloc (.cells #[.slice (some ⟨g, 0, none⟩) n c, .slice (some ⟨g', 0, none⟩) n c'] 27)) w.heap.size [.slice (some ⟨g, 0, none⟩) n c, .slice (some ⟨g', 0, none⟩) n c'] := Box.new _ _ _
  have T0 := own_alloc (own_refl w) (.cells #[.slice (some ⟨g, 0, none⟩) n c, .slice (some ⟨g', 0, none⟩) n c'] 27)
  go_enter Try.func47, Try.ntmps47
  go_wp2_with fail
  generalize w.alloc (.cells #[.slice (some ⟨g, 0, none⟩) n c, .slice (some ⟨g', 0, none⟩) n c'] 27) = w0 at *
  go_loopw [5, 10] (fun x i wr => ∃ k : Nat, k ≤ n ∧ i = (.int .i64 ((k : Int))) ∧ x = (.int .i64 (((cntP p k : Nat) : Int))) ∧ Below w.heap.size w wr ∧ Box wr w.heap.size [.slice (some ⟨g, 0, none⟩) n c, .slice (some ⟨g', 0, none⟩) n c']) (fun _ i _ => n - (intOf i).toNat)
  case atStart => exact ⟨0, Nat.zero_le _, rfl, rfl, T0, B0⟩
  case round =>
    obtain ⟨k, hk, rfl, rfl, T, B⟩ := hrel
    clear T0 B0 w0
    obtain ⟨-, c0, c1, -, -⟩ := B.two
    by_cases hlt : k < n
    · have HX := Lib.hid (HL.out k hlt)
      have HY := Lib.hid (HP.out k)
      have hle := cntP_le p k
      have HC : Hid (cntP p (k + 1) = if p k then cntP p k + 1 else cntP p k) := Lib.hid rfl
      generalize stW s t n bs.data.toList k = x at *
      generalize p k = pk at *
      generalize cntP p k = q at *
      by_cases hx : x = k
      · have HC2 : Hid (cntP p (k + 1) = q + 1) := Lib.hid (by
          rw [HC.out, ← HY.out, decide_eq_true hx]; rfl)
        subst hx
        clear HC HY
        go_wp2_with fail
        refine (HX.out _ (by repeat (first | with_reducible exact own_refl _ | with_reducible assumption | with_reducible apply own_alloc | with_reducible apply own_drewN | with_reducible apply own_drew | ((with_reducible refine own_setCell ?_ ?_ _); rotate_left; focus (first | (simp; done) | (simp; omega))) | (with_reducible (refine own_trans ?_ (by assumption)))))).mono ?_
        rintro e w4 ⟨rfl, hb4⟩
        have T4 := own_trans T hb4
        have B4 := B.below hb4
        clear hb4
        go_wp2
        go_roundw
        case rel => exact ⟨x + 1, by omega, by go_num, by rw [HC2.out]; go_num, T4, B4⟩
        case measure => simp [intOf]; omega
      · have HC2 : Hid (cntP p (k + 1) = q) := Lib.hid (by
          rw [HC.out, ← HY.out, decide_eq_false hx]; rfl)
        have hx2 : ¬ (x : Int) = (k : Int) := by omega
        clear HC HY hx
        go_wp2_with fail
        refine (HX.out _ (by repeat (first | with_reducible exact own_refl _ | with_reducible assumption | with_reducible apply own_alloc | with_reducible apply own_drewN | with_reducible apply own_drew | ((with_reducible refine own_setCell ?_ ?_ _); rotate_left; focus (first | (simp; done) | (simp; omega))) | (with_reducible (refine own_trans ?_ (by assumption)))))).mono ?_
        rintro e w4 ⟨rfl, hb4⟩
        have T4 := own_trans T hb4
        have B4 := B.below hb4
        clear hb4
        go_wp2
        go_roundw
        case rel => exact ⟨k + 1, by omega, by go_num, by rw [HC2.out], T4, B4⟩
        case measure => simp [intOf]; omega
    · obtain rfl : k = n := by omega
      go_wp2
      go_ret
      exact ⟨rfl, T⟩
set_option maxHeartbeats 4000000 in
theorem l10Kept_is (a b : Value) (s t : List Int) (n : Nat) (hn : n ≤ 1000) (hs : Pm s n) (ht : Pm t n) (h0 : 0 < n) (w : World) (ha : Rl w a s) (hb : Rl w b t) :
    Calls Try.prog 46 #[.agg #[a, b]] w fun e w' => e = .returned (.tuple #[(.int .i64 (((cntP (kp2 s) n : Nat) : Int))), (.int .i64 (((cntP (kp3 s t) n : Nat) : Int)))]) ∧ Below w.heap.size w w' := by
  have HP := Lib.hid (And.intro hs ht)
  obtain ⟨g, c, rfl, hg⟩ := ha.at (by rw [hs.len]; omega)
  obtain ⟨g', c', rfl, hg'⟩ := hb.at (by rw [ht.len]; omega)
  rw [hs.len, ht.len] at *
  have HG := Lib.hid (And.intro hg hg')
  clear hs ht ha hb hg hg'
  have B0 : Box (w.alloc (.cells #[.slice (some ⟨g, 0, none⟩) n c, .slice (some ⟨g', 0, none⟩) n c'] 27)) w.heap.size [.slice (some ⟨g, 0, none⟩) n c, .slice (some ⟨g', 0, none⟩) n c'] := Box.new _ _ _
  have T0 := own_alloc (own_refl w) (.cells #[.slice (some ⟨g, 0, none⟩) n c, .slice (some ⟨g', 0, none⟩) n c'] 27)
  go_enter Try.func46, Try.ntmps46
  go_wp2_with fail
  generalize w.alloc (.cells #[.slice (some ⟨g, 0, none⟩) n c, .slice (some ⟨g', 0, none⟩) n c'] 27) = w0 at *
  go_loopw [4, 5, 6] (fun x y i wr => ∃ k : Nat, k ≤ n ∧ i = (.int .i64 ((k : Int))) ∧ x = (.int .i64 (((cntP (kp2 s) k : Nat) : Int))) ∧ y = (.int .i64 (((cntP (kp3 s t) k : Nat) : Int))) ∧ Below w.heap.size w wr ∧ Box wr w.heap.size [.slice (some ⟨g, 0, none⟩) n c, .slice (some ⟨g', 0, none⟩) n c']) (fun _ _ i _ => n - (intOf i).toNat)
  case atStart => exact ⟨0, Nat.zero_le _, rfl, rfl, rfl, T0, B0⟩
  case round =>
    obtain ⟨k, hk, rfl, rfl, rfl, T, B⟩ := hrel
    clear T0 B0 w0
    obtain ⟨-, c0, c1, -, -⟩ := B.two
    by_cases hlt : k < n
    · obtain ⟨es, hsl⟩ := HP.out.1.at hlt
      obtain ⟨et, htl⟩ := HP.out.2.at hlt
      obtain ⟨es2, hsl2⟩ := HP.out.1.at htl
      have cS := (HG.out.1.below T).2 k (by rw [HP.out.1.len]; exact hlt)
      have cT := (HG.out.2.below T).2 k (by rw [HP.out.2.len]; exact hlt)
      have cS2 := (HG.out.1.below T).2 _ (by rw [HP.out.1.len]; exact htl)
      rw [es] at cS
      rw [et] at cT
      rw [es2] at cS2
      have l2 := cntP_le (kp2 s) k
      have l3 := cntP_le (kp3 s t) k
      have H2 : Hid (cntP (kp2 s) (k + 1) = if decide (pt s k = k) then cntP (kp2 s) k + 1 else cntP (kp2 s) k) := Lib.hid rfl
      have H3 : Hid (cntP (kp3 s t) (k + 1) = if decide (pt s (pt t k) = k) then cntP (kp3 s t) k + 1 else cntP (kp3 s t) k) := Lib.hid rfl
      clear es et es2
      generalize pt s (pt t k) = z at *
      generalize pt t k = y at *
      generalize pt s k = x at *
      generalize cntP (kp2 s) k = q2 at *
      generalize cntP (kp3 s t) k = q3 at *
      obtain ⟨u2, hu2⟩ : ∃ u, cntP (kp2 s) (k + 1) = u := ⟨_, rfl⟩
      obtain ⟨u3, hu3⟩ : ∃ u, cntP (kp3 s t) (k + 1) = u := ⟨_, rfl⟩
      rw [hu2] at H2
      rw [hu3] at H3
      have HU := Lib.hid (And.intro hu2 hu3)
      clear hu2 hu3
      have e2 : ((x : Int) == (k : Int)) = decide (x = k) := int_eq _ _
      have e3 : ((z : Int) == (k : Int)) = decide (z = k) := int_eq _ _
      rcases d2 : decide (x = k) with _ | _
      · rcases d3 : decide (z = k) with _ | _
        · rw [d2] at e2 H2
          rw [d3] at e3 H3
          have hx : ¬ (x : Int) = k := by have := of_decide_eq_false d2; omega
          have hz : ¬ (z : Int) = k := by have := of_decide_eq_false d3; omega
          clear d2 d3 e2 e3
          go_wp2
          go_quiet (fail)
          go_wp2
          go_roundw
          case rel => exact ⟨k + 1, by omega, by go_num, by rw [HU.out.1, H2.out]; rfl, by rw [HU.out.2, H3.out]; rfl, below_drewN' T _, B.drewN _⟩
          case measure => simp [intOf]; omega
        · rw [d2] at e2 H2
          rw [d3] at e3 H3
          have hx : ¬ (x : Int) = k := by have := of_decide_eq_false d2; omega
          have hz := of_decide_eq_true d3
          subst hz
          clear d2 d3 e2 e3
          go_wp2
          go_quiet (fail)
          go_wp2
          go_roundw
          case rel => exact ⟨z + 1, by omega, by go_num, by rw [HU.out.1, H2.out]; rfl, by rw [HU.out.2, H3.out]; go_num, below_drewN' T _, B.drewN _⟩
          case measure => simp [intOf]; omega
      · have hx := of_decide_eq_true d2
        rcases d3 : decide (z = k) with _ | _
        · rw [d2] at H2
          rw [d3] at H3
          have hz : ¬ (z : Int) = k := by have := of_decide_eq_false d3; omega
          clear d2 d3 e2 e3
          subst hx
          go_wp2
          go_quiet (fail)
          go_wp2
          go_roundw
          case rel => exact ⟨x + 1, by omega, by go_num, by rw [HU.out.1, H2.out]; go_num, by rw [HU.out.2, H3.out]; rfl, below_drewN' T _, B.drewN _⟩
          case measure => simp [intOf]; omega
        · rw [d2] at H2
          rw [d3] at H3
          have hz := of_decide_eq_true d3
          clear d2 d3 e2 e3
          subst hx hz
          go_wp2
          go_quiet (fail)
          go_wp2
          go_roundw
          case rel => exact ⟨z + 1, by omega, by go_num, by rw [HU.out.1, H2.out]; go_num, by rw [HU.out.2, H3.out]; go_num, below_drewN' T _, B.drewN _⟩
          case measure => simp [intOf]; omega
    · obtain rfl : k = n := by omega
      go_wp2
      go_ret2
      exact ⟨rfl, T⟩
end Go.Proofs.Ytfchfakkbdfajaa
