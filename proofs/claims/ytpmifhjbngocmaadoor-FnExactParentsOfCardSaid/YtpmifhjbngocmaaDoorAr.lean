/- impl.areRuns: contract. -/
import Derived.Test.YtpmifhjbngocmaaDoorA
import Derived.Test.YtpmifhjbngocmaaDoorOpenS
namespace Go.Proofs.YtpmifhjbngocmaaDoor
open Go.ChangeShapes Go.WideShapes Go.ChangeAt Go.RowKit

/-- the i-th number of a list of runs may be x -/
def okRun (i : Nat) (x : Int) : Bool := decide (0 ≤ x ∧ x ≤ 1000000000 ∧ (i = 0 ∨ x ≠ 0))
def okFrom : Nat → List Int → Bool
  | _, [] => true
  | i, x :: r => okRun i x && okFrom (i + 1) r
/-- a list is one of runs -/
def runsOk (xs : List Int) : Bool := decide (xs.length ≤ 100) && (decide (xs ≠ [0]) && okFrom 0 xs)
theorem okFrom_step {xs : List Int} {k : Nat} (hk : k < xs.length) {x : Int} (hx : xs.getD k 0 = x) : okFrom k (xs.drop k) = (okRun k x && okFrom (k + 1) (xs.drop (k + 1))) := by
  subst hx
  rw [List.drop_eq_getElem_cons hk, okFrom]
  simp [List.getD, List.getElem?_eq_getElem hk]

set_option maxHeartbeats 1000000 in
theorem areRuns_long (a : Option Addr) (cap : Nat) (xs : List Int) (hn : 100 < xs.length) (hn' : xs.length ≤ 1048576) (w : World) :
    Calls Tryd.prog 69 #[.slice a xs.length cap] w fun e w' => e = .returned (.bool (runsOk xs)) ∧ w = w' := by
  have H : Hid (runsOk xs = false) := Lib.hid (by unfold runsOk; rw [decide_eq_false (by omega)]; rfl)
  have h1 : (100 : Int) < (xs.length : Int) := by omega
  go_enter Tryd.func69, Tryd.ntmps69
  go_wp2
  go_ret
  exact ⟨ret_bool H.out.symm, rfl⟩
set_option maxHeartbeats 1000000 in
theorem areRuns_nil (a : Option Addr) (cap : Nat) (w : World) :
    Calls Tryd.prog 69 #[.slice a 0 cap] w fun e w' => e = .returned (.bool true) ∧ w = w' := by
  go_enter Tryd.func69, Tryd.ntmps69
  go_wp2
  go_loop [21] (fun i => i = (.int .i64 0)) (fun _ => 0)
  case atStart => rfl
  case round =>
    subst hrel
    go_wp2
    go_ret
    exact ⟨rfl, rfl⟩
set_option maxHeartbeats 2000000 in
theorem areRuns_some (b off cap : Nat) (xs : List Int) (h1 : 1 ≤ xs.length) (hn : xs.length ≤ 100) (w : World) (hc : ∀ k, k < xs.length → w.cell? ⟨b, off + k, none⟩ = some (.int .i64 (xs.getD k 0))) :
    Calls Tryd.prog 69 #[.slice (some ⟨b, off, none⟩) xs.length cap] w fun e w' => e = .returned (.bool (runsOk xs)) ∧ w = w' := by
  have HC := Lib.hid hc
  obtain ⟨x0, hx0⟩ : ∃ x, xs.getD 0 0 = x := ⟨_, rfl⟩
  have c0 : w.cell? ⟨b, off, none⟩ = some (.int .i64 x0) := by have := hc 0 (by omega); rwa [hx0] at this
  clear hc
  have hR : Hid (∀ r : Bool, (xs.length = 1 → x0 ≠ 0) → okFrom 0 xs = r → runsOk xs = r) := Lib.hid (by
    intro r hz hr
    have : xs ≠ [0] := by rintro rfl; exact hz rfl (by simpa using hx0.symm)
    unfold runsOk
    rw [decide_eq_true hn, decide_eq_true this, hr]
    rfl)
  by_cases hz : xs.length = 1 ∧ x0 = 0
  · obtain ⟨hl, rfl⟩ := hz
    have H : Hid (runsOk xs = false) := Lib.hid (by
      obtain ⟨y, rfl⟩ := List.length_eq_one_iff.1 hl
      simp at hx0
      subst hx0
      rfl)
    clear hR
    rw [hl]
    go_enter Tryd.func69, Tryd.ntmps69
    go_wp2
    go_ret
    exact ⟨ret_bool H.out.symm, rfl⟩
  · have HZ := Lib.hid (show xs.length = 1 → x0 ≠ 0 from fun h1 h2 => hz ⟨h1, h2⟩)
    have hbool : ((xs.length : Int) == 1) = false ∨ (((xs.length : Int) == 1) = true ∧ (x0 == 0) = false) := by
      by_cases e : xs.length = 1
      · right; refine ⟨by simp [e], ?_⟩; have := HZ.out e; simpa using this
      · left; simp; omega
    clear hz hx0
    rcases hbool with hb | ⟨hb, hb2⟩
    all_goals
      go_enter Tryd.func69, Tryd.ntmps69
      go_wp2
      go_loop [21] (fun i => ∃ k : Nat, k ≤ xs.length ∧ i = (.int .i64 k) ∧ Hid (okFrom 0 xs = okFrom k (xs.drop k))) (fun i => xs.length - (intOf i).toNat)
      case atStart => exact ⟨0, Nat.zero_le _, rfl, Lib.hid rfl⟩
      case round =>
        obtain ⟨k, hk, rfl, HO⟩ := hrel
        by_cases hlt : k < xs.length
        · obtain ⟨x, hx⟩ : ∃ x, xs.getD k 0 = x := ⟨_, rfl⟩
          have c1 : w.cell? ⟨b, off + k, none⟩ = some (.int .i64 x) := by rw [← hx]; exact HC.out k hlt
          have HS := Lib.hid (okFrom_step hlt hx)
          clear hx
          rcases (show x < 0 ∨ (x = 0 ∧ 0 < k) ∨ 1000000000 < x ∨ (x = 0 ∧ k = 0) ∨ (0 < x ∧ x ≤ 1000000000) by omega) with h | ⟨h, h'⟩ | h | ⟨h, h'⟩ | ⟨h, h'⟩
          · have HN : Hid (runsOk xs = false) := Lib.hid (hR.out false HZ.out (by rw [HO.out, HS.out, show okRun k x = false from decide_eq_false (by omega)]; rfl))
            go_wp2
            go_ret
            exact ⟨ret_bool HN.out.symm, rfl⟩
          · have HN : Hid (runsOk xs = false) := Lib.hid (hR.out false HZ.out (by rw [HO.out, HS.out, show okRun k x = false from decide_eq_false (by omega)]; rfl))
            subst h
            have hk1 : 0 < (k : Int) := by omega
            go_wp2
            go_ret
            exact ⟨ret_bool HN.out.symm, rfl⟩
          · have HN : Hid (runsOk xs = false) := Lib.hid (hR.out false HZ.out (by rw [HO.out, HS.out, show okRun k x = false from decide_eq_false (by omega)]; rfl))
            have hx0' : (x == 0) = false := by simp; omega
            have hxn : ¬ x < 0 := by omega
            go_wp2
            go_ret
            exact ⟨ret_bool HN.out.symm, rfl⟩
          · have HY : Hid (okFrom 0 xs = okFrom (k + 1) (xs.drop (k + 1))) := Lib.hid (by rw [HO.out, HS.out, show okRun k x = true from decide_eq_true (by omega)]; rfl)
            subst h
            have hk1 : ¬ (0 < (k : Int)) := by omega
            clear h'
            go_wp2
            go_round
            case rel => exact ⟨k + 1, by omega, by go_num, HY⟩
            case measure => simp [intOf]; omega
          · have HY : Hid (okFrom 0 xs = okFrom (k + 1) (xs.drop (k + 1))) := Lib.hid (by rw [HO.out, HS.out, show okRun k x = true from decide_eq_true (by omega)]; rfl)
            have hx0' : (x == 0) = false := by simp; omega
            have hxn : ¬ x < 0 := by omega
            go_wp2
            go_round
            case rel => exact ⟨k + 1, by omega, by go_num, HY⟩
            case measure => simp [intOf]; omega
        · have HN : Hid (runsOk xs = true) := Lib.hid (hR.out true HZ.out (by rw [HO.out, List.drop_of_length_le (by omega)]; rfl))
          go_wp2
          go_ret
          exact ⟨ret_bool HN.out.symm, rfl⟩
end Go.Proofs.YtpmifhjbngocmaaDoor
