/- Contracts of the first chapter's small functions. -/
import Derived.Test.YtdcomnnpnhinfaaDoorBase
namespace Go.Proofs.YtdcomnnpnhinfaaDoor
open Go.ChangeShapes Go.WideShapes Go.ChangeAt Go.RowKit

/-- from -lim to lim -/
def inW (x lim : Int) : Bool := decide (-lim ≤ x ∧ x ≤ lim)

set_option maxHeartbeats 400000 in
theorem isWithin_any (x lim : Int) (h0 : 0 ≤ lim) (h1 : lim ≤ 9223372036854775807) (w : World) :
    Calls Tryd.prog 92 #[.int .i64 x, .int .i64 lim] w fun e w' => e = .returned (.bool (inW x lim)) ∧ w = w' := by
  by_cases a : -lim ≤ x
  · by_cases b : x ≤ lim
    · go_enter Tryd.func92, Tryd.ntmps92
      go_wp2
      go_ret
      exact ⟨by simp [inW, a, b], rfl⟩
    · go_enter Tryd.func92, Tryd.ntmps92
      go_wp2
      go_ret
      exact ⟨by simp [inW, a, b], rfl⟩
  · go_enter Tryd.func92, Tryd.ntmps92
    go_wp2
    go_ret
    exact ⟨by simp [inW]; omega, rfl⟩

/-- all from -lim to lim -/
def allW (xs : List Int) (lim : Int) : Bool := xs.all fun x => inW x lim

theorem allW_take (xs : List Int) (lim : Int) (k : Nat) (hk : k < xs.length) (h : allW (xs.take k) lim = true) (hx : inW (xs.getD k 0) lim = true) : allW (xs.take (k + 1)) lim = true := by
  unfold allW at *
  rw [List.take_succ_eq_append_getElem hk, List.all_append, h]
  simpa [List.getD, List.getElem?_eq_getElem hk] using hx
theorem allW_not (xs : List Int) (lim : Int) (k : Nat) (hk : k < xs.length) (hx : inW (xs.getD k 0) lim = false) : allW xs lim = false := by
  unfold allW
  rw [List.all_eq_false]
  exact ⟨xs[k], List.getElem_mem hk, by simpa [List.getD, List.getElem?_eq_getElem hk] using hx⟩

theorem isWithin_is (r : Bool) (x lim : Int) (h0 : 0 ≤ lim) (h1 : lim ≤ 9223372036854775807) (hr : inW x lim = r) (w : World) :
    Calls Tryd.prog 92 #[.int .i64 x, .int .i64 lim] w fun e w' => e = .returned (.bool r) ∧ w = w' := hr ▸ isWithin_any x lim h0 h1 w

set_option maxHeartbeats 400000 in
theorem allWithin_any (xs : List Int) (lim : Int) (h0 : 0 ≤ lim) (h1 : lim ≤ 9223372036854775807) (b off cap : Nat) (hn : xs.length ≤ 4294967296) (w : World)
    (hc : ∀ k, k < xs.length → w.cell? ⟨b, off + k, none⟩ = some (.int .i64 (xs.getD k 0))) :
    Calls Tryd.prog 69 #[.slice (some ⟨b, off, none⟩) xs.length cap, .int .i64 lim] w fun e w' => e = .returned (.bool (allW xs lim)) ∧ w = w' := by
  have HC := Lib.hid hc
  clear hc
  go_enter Tryd.func69, Tryd.ntmps69
  go_wp2
  go_loop [9] (fun i => ∃ k : Nat, k ≤ xs.length ∧ i = .int .i64 k ∧ allW (xs.take k) lim = true) (fun i => xs.length - (intOf i).toNat)
  case atStart => exact ⟨0, Nat.zero_le _, rfl, rfl⟩
  case round =>
    obtain ⟨k, hk, rfl, hall⟩ := hrel
    have HALL := Lib.hid hall
    clear hall
    by_cases hlt : k < xs.length
    · have hcell := HC.out k hlt
      obtain ⟨x, hx⟩ : ∃ x, xs.getD k 0 = x := ⟨_, rfl⟩
      rw [hx] at hcell
      rcases hr : inW x lim with _ | _
      · have HN := Lib.hid (allW_not xs lim k hlt (hx ▸ hr))
        have HR := Lib.hid hr
        clear hx hr
        go_wp2_with (go_at_call 92; refine (isWithin_is false _ _ h0 h1 HR.out _).mono ?_; rintro e w' ⟨rfl, rfl⟩)
        go_ret
        exact ⟨ret_bool HN.out.symm, rfl⟩
      · have HY := Lib.hid (allW_take xs lim k hlt HALL.out (hx ▸ hr))
        have HR := Lib.hid hr
        clear hx hr
        go_wp2_with (go_at_call 92; refine (isWithin_is true _ _ h0 h1 HR.out _).mono ?_; rintro e w' ⟨rfl, rfl⟩)
        go_round
        case rel => exact ⟨k + 1, by omega, by go_num, HY.out⟩
        case measure => simp [intOf]; omega
    · have HE : Hid (allW xs lim = true) := by have := HALL.out; rwa [List.take_of_length_le (by omega)] at this
      go_wp2
      go_ret
      exact ⟨ret_bool HE.out.symm, rfl⟩

theorem mul_bd {a d A D : Int} (ha : -A ≤ a ∧ a ≤ A) (hd : -D ≤ d ∧ d ≤ D) : -(A * D) ≤ a * d ∧ a * d ≤ A * D := by
  have h1 : a.natAbs ≤ A.toNat := by omega
  have h2 : d.natAbs ≤ D.toNat := by omega
  have h3 : (a * d).natAbs ≤ A.toNat * D.toNat := by rw [Int.natAbs_mul]; exact Nat.mul_le_mul h1 h2
  have h4 : ((A.toNat * D.toNat : Nat) : Int) = A * D := by rw [Int.natCast_mul, Int.toNat_of_nonneg (by omega), Int.toNat_of_nonneg (by omega)]
  omega

/-- an entry: from -1000000000 to 1000000000 -/
def Ent (x : Int) : Prop := -1000000000 ≤ x ∧ x ≤ 1000000000
theorem ent_iff {x : Int} : inW x 1000000000 = true ↔ Ent x := by simp [inW, Ent]
theorem ent_mul {a d : Int} (ha : Ent a) (hd : Ent d) : -1000000000000000000 ≤ a * d ∧ a * d ≤ 1000000000000000000 := by
  have := mul_bd ha hd
  omega
/-- four numbers are those of a matrix -/
instance (x : Int) : Decidable (Ent x) := inferInstanceAs (Decidable (_ ∧ _))
def isM (a b c d : Int) : Bool := decide (Ent a ∧ Ent b ∧ Ent c ∧ Ent d ∧ a * d - b * c = 1)
theorem allW4 (a b c d : Int) : allW [a, b, c, d] 1000000000 = true ↔ Ent a ∧ Ent b ∧ Ent c ∧ Ent d := by
  simp [allW, ent_iff]

theorem allW4_is (r : Bool) (a b c d : Int) (g : Nat) (w : World) (hr : allW [a, b, c, d] 1000000000 = r)
    (h0 : w.cell? ⟨g, 0, none⟩ = some (.int .i64 a)) (h1 : w.cell? ⟨g, 1, none⟩ = some (.int .i64 b)) (h2 : w.cell? ⟨g, 2, none⟩ = some (.int .i64 c)) (h3 : w.cell? ⟨g, 3, none⟩ = some (.int .i64 d)) :
    Calls Tryd.prog 69 #[.slice (some ⟨g, 0, none⟩) 4 4, .int .i64 1000000000] w fun e w' => e = .returned (.bool r) ∧ w = w' := by
  subst hr
  refine allWithin_any [a, b, c, d] 1000000000 (by omega) (by omega) g 0 4 (by simp) w ?_
  intro k hk
  have : k = 0 ∨ k = 1 ∨ k = 2 ∨ k = 3 := by simp at hk; omega
  rcases this with rfl | rfl | rfl | rfl <;> simpa

/-- from low to high -/
def inR (x lo hi : Int) : Bool := decide (lo ≤ x ∧ x ≤ hi)

theorem l01In_any (x lo hi : Int) (w : World) :
    Calls Tryd.prog 29 #[.int .i64 x, .int .i64 lo, .int .i64 hi] w fun e w' => e = .returned (.bool (inR x lo hi)) ∧ w = w' := by
  by_cases a : lo ≤ x
  · by_cases b : x ≤ hi
    · go_enter Tryd.func29, Tryd.ntmps29
      go_wp2
      go_ret
      exact ⟨by simp [inR, a, b], rfl⟩
    · go_enter Tryd.func29, Tryd.ntmps29
      go_wp2
      go_ret
      exact ⟨by simp [inR, a, b], rfl⟩
  · go_enter Tryd.func29, Tryd.ntmps29
    go_wp2
    go_ret
    exact ⟨by simp [inR]; omega, rfl⟩

theorem l01Entry_any (x : Int) (w : World) :
    Calls Tryd.prog 67 #[.int .i64 x] w fun e w' => e = .returned (.bool (inW x 1000000000)) ∧ w = w' := by
  go_enter Tryd.func67, Tryd.ntmps67
  go_wp2_with (go_at_call 29; refine (l01In_any _ _ _ _).mono ?_; rintro e w' ⟨rfl, rfl⟩)
  go_ret
  exact ⟨rfl, rfl⟩

theorem isM_of {a b c d : Int} (ha : inW a 1000000000 = true) (hb : inW b 1000000000 = true) (hc : inW c 1000000000 = true) (hd : inW d 1000000000 = true) (r : Bool) (h : (a * d - b * c == 1) = r) : isM a b c d = r := by
  rw [ent_iff] at ha hb hc hd
  unfold isM
  subst h
  by_cases h : a * d - b * c = 1 <;> simp [h, ha, hb, hc, hd]
theorem isM_not {a b c d : Int} (h : inW a 1000000000 = false ∨ inW b 1000000000 = false ∨ inW c 1000000000 = false ∨ inW d 1000000000 = false) : isM a b c d = false := by
  simp only [← Bool.not_eq_true, ent_iff] at h
  unfold isM
  rw [decide_eq_false_iff_not]
  rintro ⟨ha, hb, hc, hd, _⟩
  rcases h with h | h | h | h <;> contradiction

theorem ent_i64 {x : Int} (h : Ent x) : I64 x := by unfold Ent at h; unfold I64; omega
theorem isM_ent {a b c d : Int} (h : isM a b c d = true) : Ent a ∧ Ent b ∧ Ent c ∧ Ent d ∧ a * d - b * c = 1 := of_decide_eq_true h

theorem l01In_is (r : Bool) (x lo hi : Int) (hr : inR x lo hi = r) (w : World) :
    Calls Tryd.prog 29 #[(.int .i64 x), (.int .i64 lo), (.int .i64 hi)] w fun e w' => e = .returned (.bool r) ∧ w = w' := hr ▸ l01In_any x lo hi w
end Go.Proofs.YtdcomnnpnhinfaaDoor
