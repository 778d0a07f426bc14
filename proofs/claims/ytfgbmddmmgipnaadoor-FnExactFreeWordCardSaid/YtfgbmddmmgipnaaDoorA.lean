/- Contracts of the first chapter's small functions. -/
import Derived.Test.YtfgbmddmmgipnaaDoorBase
namespace Go.Proofs.YtfgbmddmmgipnaaDoor
open Go.ChangeShapes Go.WideShapes Go.ChangeAt Go.RowKit

/-- from -lim to lim -/
def inW (x lim : Int) : Bool := decide (-lim ≤ x ∧ x ≤ lim)

set_option maxHeartbeats 400000 in
theorem isWithin_any (x lim : Int) (h0 : 0 ≤ lim) (h1 : lim ≤ 9223372036854775807) (w : World) :
    Calls Tryd.prog 50 #[.int .i64 x, .int .i64 lim] w fun e w' => e = .returned (.bool (inW x lim)) ∧ w = w' := by
  by_cases a : -lim ≤ x
  · by_cases b : x ≤ lim
    · go_enter Tryd.func50, Tryd.ntmps50
      go_wp2
      go_ret
      exact ⟨by simp [inW, a, b], rfl⟩
    · go_enter Tryd.func50, Tryd.ntmps50
      go_wp2
      go_ret
      exact ⟨by simp [inW, a, b], rfl⟩
  · go_enter Tryd.func50, Tryd.ntmps50
    go_wp2
    go_ret
    exact ⟨by simp [inW]; omega, rfl⟩

/-- all from -lim to lim -/
def allW (xs : List Int) (lim : Int) : Bool := xs.all fun x => inW x lim

theorem allW_take (xs : List Int) (lim : Int) (k : Nat) (hk : k < xs.length) (h : allW (xs.take k) lim = true) (hx : inW (xs.getD k 0) lim = true) : allW (xs.take (k + 1)) lim = true := by
  unfold allW at *
  rw [List.take_succ_eq_append_getElem hk, List.all_append, h]
  simpa [List.getD, List.getElem?_eq_getElem hk] using hx
theorem allW_not (xs : List Int) (lim : Int) (k : Nat) (hk : k < xs.length) (hx : inW (xs.getD k 0) lim = false) : allW xs lim = false := by
  unfold allW
  rw [List.all_eq_false]
  exact ⟨xs[k], List.getElem_mem hk, by simpa [List.getD, List.getElem?_eq_getElem hk] using hx⟩

theorem isWithin_is (r : Bool) (x lim : Int) (h0 : 0 ≤ lim) (h1 : lim ≤ 9223372036854775807) (hr : inW x lim = r) (w : World) :
    Calls Tryd.prog 50 #[.int .i64 x, .int .i64 lim] w fun e w' => e = .returned (.bool r) ∧ w = w' := hr ▸ isWithin_any x lim h0 h1 w

set_option maxHeartbeats 400000 in
theorem allWithin_any (xs : List Int) (lim : Int) (h0 : 0 ≤ lim) (h1 : lim ≤ 9223372036854775807) (b off cap : Nat) (hn : xs.length ≤ 4294967296) (w : World)
    (hc : ∀ k, k < xs.length → w.cell? ⟨b, off + k, none⟩ = some (.int .i64 (xs.getD k 0))) :
    Calls Tryd.prog 29 #[.slice (some ⟨b, off, none⟩) xs.length cap, .int .i64 lim] w fun e w' => e = .returned (.bool (allW xs lim)) ∧ w = w' := by
  have HC := Lib.hid hc
  clear hc
  go_enter Tryd.func29, Tryd.ntmps29
  go_wp2
  go_loop [9] (fun i => ∃ k : Nat, k ≤ xs.length ∧ i = .int .i64 k ∧ allW (xs.take k) lim = true) (fun i => xs.length - (intOf i).toNat)
  case atStart => exact ⟨0, Nat.zero_le _, rfl, rfl⟩
  case round =>
    obtain ⟨k, hk, rfl, hall⟩ := hrel
    have HALL := Lib.hid hall
    clear hall
    by_cases hlt : k < xs.length
    · have hcell := HC.out k hlt
      obtain ⟨x, hx⟩ : ∃ x, xs.getD k 0 = x := ⟨_, rfl⟩
      rw [hx] at hcell
      rcases hr : inW x lim with _ | _
      · have HN := Lib.hid (allW_not xs lim k hlt (hx ▸ hr))
        have HR := Lib.hid hr
        clear hx hr
        go_wp2_with (go_at_call 50; refine (isWithin_is false _ _ h0 h1 HR.out _).mono ?_; rintro e w' ⟨rfl, rfl⟩)
        go_ret
        exact ⟨ret_bool HN.out.symm, rfl⟩
      · have HY := Lib.hid (allW_take xs lim k hlt HALL.out (hx ▸ hr))
        have HR := Lib.hid hr
        clear hx hr
        go_wp2_with (go_at_call 50; refine (isWithin_is true _ _ h0 h1 HR.out _).mono ?_; rintro e w' ⟨rfl, rfl⟩)
        go_round
        case rel => exact ⟨k + 1, by omega, by go_num, HY.out⟩
        case measure => simp [intOf]; omega
    · have HE : Hid (allW xs lim = true) := by have := HALL.out; rwa [List.take_of_length_le (by omega)] at this
      go_wp2
      go_ret
      exact ⟨ret_bool HE.out.symm, rfl⟩

theorem mul_bd {a d A D : Int} (ha : -A ≤ a ∧ a ≤ A) (hd : -D ≤ d ∧ d ≤ D) : -(A * D) ≤ a * d ∧ a * d ≤ A * D := by
  have h1 : a.natAbs ≤ A.toNat := by omega
  have h2 : d.natAbs ≤ D.toNat := by omega
  have h3 : (a * d).natAbs ≤ A.toNat * D.toNat := by rw [Int.natAbs_mul]; exact Nat.mul_le_mul h1 h2
  have h4 : ((A.toNat * D.toNat : Nat) : Int) = A * D := by rw [Int.natCast_mul, Int.toNat_of_nonneg (by omega), Int.toNat_of_nonneg (by omega)]
  omega

/-- an entry: from -1000000000 to 1000000000 -/
def Ent (x : Int) : Prop := -1000000000 ≤ x ∧ x ≤ 1000000000
theorem ent_iff {x : Int} : inW x 1000000000 = true ↔ Ent x := by simp [inW, Ent]
theorem ent_mul {a d : Int} (ha : Ent a) (hd : Ent d) : -1000000000000000000 ≤ a * d ∧ a * d ≤ 1000000000000000000 := by
  have := mul_bd ha hd
  omega
/-- four numbers are those of a matrix -/
instance (x : Int) : Decidable (Ent x) := inferInstanceAs (Decidable (_ ∧ _))
def isM (a b c d : Int) : Bool := decide (Ent a ∧ Ent b ∧ Ent c ∧ Ent d ∧ a * d - b * c = 1)
theorem allW4 (a b c d : Int) : allW [a, b, c, d] 1000000000 = true ↔ Ent a ∧ Ent b ∧ Ent c ∧ Ent d := by
  simp [allW, ent_iff]

theorem allW4_is (r : Bool) (a b c d : Int) (g : Nat) (w : World) (hr : allW [a, b, c, d] 1000000000 = r)
    (h0 : w.cell? ⟨g, 0, none⟩ = some (.int .i64 a)) (h1 : w.cell? ⟨g, 1, none⟩ = some (.int .i64 b)) (h2 : w.cell? ⟨g, 2, none⟩ = some (.int .i64 c)) (h3 : w.cell? ⟨g, 3, none⟩ = some (.int .i64 d)) :
    Calls Tryd.prog 29 #[.slice (some ⟨g, 0, none⟩) 4 4, .int .i64 1000000000] w fun e w' => e = .returned (.bool r) ∧ w = w' := by
  subst hr
  refine allWithin_any [a, b, c, d] 1000000000 (by omega) (by omega) g 0 4 (by simp) w ?_
  intro k hk
  have : k = 0 ∨ k = 1 ∨ k = 2 ∨ k = 3 := by simp at hk; omega
  rcases this with rfl | rfl | rfl | rfl <;> simpa

set_option maxHeartbeats 400000 in
theorem implIs_any (a b c d : Int) (w : World) :
    Calls Tryd.prog 17 #[.agg #[.int .i64 a, .int .i64 b, .int .i64 c, .int .i64 d]] w fun e w' => e = .returned (.bool (isM a b c d)) ∧ Below w.heap.size w w' := by
  rcases hr : allW [a, b, c, d] 1000000000 with _ | _
  · have HN : Hid (isM a b c d = false) := by
      have : ¬ (allW [a, b, c, d] 1000000000 = true) := by rw [hr]; simp
      rw [allW4] at this
      exact decide_eq_false (fun h => this ⟨h.1, h.2.1, h.2.2.1, h.2.2.2.1⟩)
    have HR := Lib.hid hr
    clear hr
    go_enter Tryd.func17, Tryd.ntmps17
    go_wp2_with fail
    refine (allW4_is false a b c d _ _ HR.out (by simp) (by simp) (by simp) (by simp)).mono ?_
    rintro e w' ⟨rfl, rfl⟩
    go_wp2
    go_ret
    exact ⟨ret_bool HN.out.symm, (Below.refl _ _).alloc (Nat.le_refl _) _⟩
  · obtain ⟨ea, eb, ec, ed⟩ := (allW4 a b c d).1 hr
    have m1 := ent_mul ea ed
    have m2 := ent_mul eb ec
    have HR := Lib.hid hr
    by_cases hd : a * d - b * c = 1
    · have HN : Hid (isM a b c d = true) := decide_eq_true ⟨ea, eb, ec, ed, hd⟩
      have hd' : (a * d - b * c == 1) = true := by simpa using hd
      clear hr ea eb ec ed hd
      go_enter Tryd.func17, Tryd.ntmps17
      go_wp2_with fail
      refine (allW4_is true a b c d _ _ HR.out (by simp) (by simp) (by simp) (by simp)).mono ?_
      rintro e w' ⟨rfl, rfl⟩
      go_wp2
      go_ret
      exact ⟨ret_bool HN.out.symm, (Below.refl _ _).alloc (Nat.le_refl _) _⟩
    · have HN : Hid (isM a b c d = false) := decide_eq_false (fun h => hd h.2.2.2.2)
      have hd' : (a * d - b * c == 1) = false := by simpa using hd
      clear hr ea eb ec ed hd
      go_enter Tryd.func17, Tryd.ntmps17
      go_wp2_with fail
      refine (allW4_is true a b c d _ _ HR.out (by simp) (by simp) (by simp) (by simp)).mono ?_
      rintro e w' ⟨rfl, rfl⟩
      go_wp2
      go_ret
      exact ⟨ret_bool HN.out.symm, (Below.refl _ _).alloc (Nat.le_refl _) _⟩

/-- from low to high -/
def inR (x lo hi : Int) : Bool := decide (lo ≤ x ∧ x ≤ hi)

theorem l01In_any (x lo hi : Int) (w : World) :
    Calls Tryd.prog 51 #[.int .i64 x, .int .i64 lo, .int .i64 hi] w fun e w' => e = .returned (.bool (inR x lo hi)) ∧ w = w' := by
  by_cases a : lo ≤ x
  · by_cases b : x ≤ hi
    · go_enter Tryd.func51, Tryd.ntmps51
      go_wp2
      go_ret
      exact ⟨by simp [inR, a, b], rfl⟩
    · go_enter Tryd.func51, Tryd.ntmps51
      go_wp2
      go_ret
      exact ⟨by simp [inR, a, b], rfl⟩
  · go_enter Tryd.func51, Tryd.ntmps51
    go_wp2
    go_ret
    exact ⟨by simp [inR]; omega, rfl⟩

theorem l01Entry_any (x : Int) (w : World) :
    Calls Tryd.prog 32 #[.int .i64 x] w fun e w' => e = .returned (.bool (inW x 1000000000)) ∧ w = w' := by
  go_enter Tryd.func32, Tryd.ntmps32
  go_wp2_with (go_at_call 51; refine (l01In_any _ _ _ _).mono ?_; rintro e w' ⟨rfl, rfl⟩)
  go_ret
  exact ⟨rfl, rfl⟩

theorem isM_of {a b c d : Int} (ha : inW a 1000000000 = true) (hb : inW b 1000000000 = true) (hc : inW c 1000000000 = true) (hd : inW d 1000000000 = true) (r : Bool) (h : (a * d - b * c == 1) = r) : isM a b c d = r := by
  rw [ent_iff] at ha hb hc hd
  unfold isM
  subst h
  by_cases h : a * d - b * c = 1 <;> simp [h, ha, hb, hc, hd]
theorem isM_not {a b c d : Int} (h : inW a 1000000000 = false ∨ inW b 1000000000 = false ∨ inW c 1000000000 = false ∨ inW d 1000000000 = false) : isM a b c d = false := by
  simp only [← Bool.not_eq_true, ent_iff] at h
  unfold isM
  rw [decide_eq_false_iff_not]
  rintro ⟨ha, hb, hc, hd, _⟩
  rcases h with h | h | h | h <;> contradiction

set_option maxHeartbeats 400000 in
theorem l01Is_any (a b c d : Int) (w : World) :
    Calls Tryd.prog 20 #[.agg #[.int .i64 a, .int .i64 b, .int .i64 c, .int .i64 d]] w fun e w' => e = .returned (.bool (isM a b c d)) ∧ Below w.heap.size w w' := by
  rcases ha : inW a 1000000000 with _ | _
  · have HN := Lib.hid (isM_not (b := b) (c := c) (d := d) (.inl ha))
    go_enter Tryd.func20, Tryd.ntmps20
    go_wp2_with (go_at_call 32; refine (l01Entry_any _ _).mono ?_; rintro e w' ⟨rfl, rfl⟩)
    go_ret
    exact ⟨ret_bool HN.out.symm, (Below.refl _ _).alloc (Nat.le_refl _) _⟩
  rcases hb : inW b 1000000000 with _ | _
  · have HN := Lib.hid (isM_not (a := a) (c := c) (d := d) (.inr (.inl hb)))
    go_enter Tryd.func20, Tryd.ntmps20
    go_wp2_with (go_at_call 32; refine (l01Entry_any _ _).mono ?_; rintro e w' ⟨rfl, rfl⟩)
    go_ret
    exact ⟨ret_bool HN.out.symm, (Below.refl _ _).alloc (Nat.le_refl _) _⟩
  rcases hc : inW c 1000000000 with _ | _
  · have HN := Lib.hid (isM_not (a := a) (b := b) (d := d) (.inr (.inr (.inl hc))))
    go_enter Tryd.func20, Tryd.ntmps20
    go_wp2_with (go_at_call 32; refine (l01Entry_any _ _).mono ?_; rintro e w' ⟨rfl, rfl⟩)
    go_ret
    exact ⟨ret_bool HN.out.symm, (Below.refl _ _).alloc (Nat.le_refl _) _⟩
  rcases hd : inW d 1000000000 with _ | _
  · have HN := Lib.hid (isM_not (a := a) (b := b) (c := c) (.inr (.inr (.inr hd))))
    go_enter Tryd.func20, Tryd.ntmps20
    go_wp2_with (go_at_call 32; refine (l01Entry_any _ _).mono ?_; rintro e w' ⟨rfl, rfl⟩)
    go_ret
    exact ⟨ret_bool HN.out.symm, (Below.refl _ _).alloc (Nat.le_refl _) _⟩
  have m1 := ent_mul (ent_iff.1 ha) (ent_iff.1 hd)
  have m2 := ent_mul (ent_iff.1 hb) (ent_iff.1 hc)
  rcases hr : (a * d - b * c == 1) with _ | _
  all_goals
    have HN := Lib.hid (isM_of ha hb hc hd _ hr)
    go_enter Tryd.func20, Tryd.ntmps20
    go_wp2_with (go_at_call 32; refine (l01Entry_any _ _).mono ?_; rintro e w' ⟨rfl, rfl⟩)
    go_ret
    exact ⟨ret_bool HN.out.symm, (Below.refl _ _).alloc (Nat.le_refl _) _⟩


theorem ent_i64 {x : Int} (h : Ent x) : I64 x := by unfold Ent at h; unfold I64; omega
theorem isM_ent {a b c d : Int} (h : isM a b c d = true) : Ent a ∧ Ent b ∧ Ent c ∧ Ent d ∧ a * d - b * c = 1 := of_decide_eq_true h

theorem l01In_is (r : Bool) (x lo hi : Int) (hr : inR x lo hi = r) (w : World) :
    Calls Tryd.prog 51 #[(.int .i64 x), (.int .i64 lo), (.int .i64 hi)] w fun e w' => e = .returned (.bool r) ∧ w = w' := hr ▸ l01In_any x lo hi w
theorem implIs_is (r : Bool) (a b c d : Int) (w : World) (h : isM a b c d = r) :
    Calls Tryd.prog 17 #[(.agg #[.int .i64 a, .int .i64 b, .int .i64 c, .int .i64 d])] w fun e w' => e = .returned (.bool r) ∧ Below w.heap.size w w' := h ▸ implIs_any a b c d w
theorem l01Is_is (r : Bool) (a b c d : Int) (w : World) (h : isM a b c d = r) :
    Calls Tryd.prog 20 #[(.agg #[.int .i64 a, .int .i64 b, .int .i64 c, .int .i64 d])] w fun e w' => e = .returned (.bool r) ∧ Below w.heap.size w w' := h ▸ l01Is_any a b c d w

end Go.Proofs.YtfgbmddmmgipnaaDoor
