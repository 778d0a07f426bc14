/- Free words: what the program asks of its four candidates. -/
import Derived.Test.YtfgbmddmmgipnaaDoorFwU
import Derived.Test.YtfgbmddmmgipnaaDoorPos
import Derived.Test.YtfgbmddmmgipnaaDoorMxS
import Derived.Test.YtfgbmddmmgipnaaDoorRunI
namespace Go.Proofs.YtfgbmddmmgipnaaDoor
open Go.ChangeShapes Go.WideShapes Go.ChangeAt Go.RowKit

theorem fwNeg (a b c d : Int) (ha : Ent a) (hb : Ent b) (hc : Ent c) (hd : Ent d) (w : World) :
    Calls Tryd.prog 39 #[(.agg #[.int .i64 a, .int .i64 b, .int .i64 c, .int .i64 d])] w fun e w' => e = .returned (.agg #[.int .i64 (-a), .int .i64 (-b), .int .i64 (-c), .int .i64 (-d)]) ∧ Below w.heap.size w w' := by
  obtain ⟨_, _⟩ := ha
  obtain ⟨_, _⟩ := hb
  obtain ⟨_, _⟩ := hc
  obtain ⟨_, _⟩ := hd
  go_enter Tryd.func39, Tryd.ntmps39
  go_wp2
  exact bodyPost_ret (v := (.agg #[.int .i64 (-a), .int .i64 (-b), .int .i64 (-c), .int .i64 (-d)])) (by simp [results, Tryd.results39, go_sem]) rfl ⟨rfl, by repeat (first | with_reducible exact own_refl _ | with_reducible assumption | with_reducible apply own_alloc | with_reducible apply own_drewN | with_reducible apply own_drew | ((with_reducible refine own_setCell ?_ ?_ _); rotate_left; focus (first | (simp; done) | (simp; omega))) | (with_reducible (refine own_trans ?_ (by assumption))))⟩
theorem mulSL (a b c d : Int) (ha : Ent a) (hb : Ent b) (hc : Ent c) (hd : Ent d) (w : World) :
    Calls Tryd.prog 35 #[(.agg #[.int .i64 0, .int .i64 (-1), .int .i64 1, .int .i64 0]), (.agg #[.int .i64 a, .int .i64 b, .int .i64 c, .int .i64 d])] w fun r w' => r = .returned (.agg #[.int .i64 (-c), .int .i64 (-d), .int .i64 a, .int .i64 b]) ∧ Below w.heap.size w w' := by
  have h := multiply_ent 0 (-1) 1 0 a b c d (by unfold Ent; omega) (by unfold Ent; omega) (by unfold Ent; omega) (by unfold Ent; omega) ha hb hc hd w
  rwa [show 0 * a + -1 * c = -c by omega, show 0 * b + -1 * d = -d by omega, show 1 * a + 0 * c = a by omega, show 1 * b + 0 * d = b by omega] at h
theorem mulSR (a b c d x z : Int) (hx : -a = x) (hz : -c = z) (ha : Ent a) (hb : Ent b) (hc : Ent c) (hd : Ent d) (w : World) :
    Calls Tryd.prog 35 #[(.agg #[.int .i64 a, .int .i64 b, .int .i64 c, .int .i64 d]), (.agg #[.int .i64 0, .int .i64 (-1), .int .i64 1, .int .i64 0])] w fun r w' => r = .returned (.agg #[.int .i64 b, .int .i64 x, .int .i64 d, .int .i64 z]) ∧ Below w.heap.size w w' := by
  subst hx hz
  have h := multiply_ent a b c d 0 (-1) 1 0 ha hb hc hd (by unfold Ent; omega) (by unfold Ent; omega) (by unfold Ent; omega) (by unfold Ent; omega) w
  rwa [show a * 0 + b * 1 = b by omega, show a * -1 + b * 0 = -a by omega, show c * 0 + d * 1 = d by omega, show c * -1 + d * 0 = -c by omega] at h
/-- positive but for the sign, as the program asks -/
def posS (m : M4) : Bool := posB m.a m.b m.c m.d || posB (-m.a) (-m.b) (-m.c) (-m.d)
theorem posS_iff (m : M4) : posS m = true ↔ PosS m := by
  simp only [posS, posB, PosS, Bool.or_eq_true, decide_eq_true_iff]
def EntM (m : M4) : Prop := Ent m.a ∧ Ent m.b ∧ Ent m.c ∧ Ent m.d
theorem posSign_is (a b c d : Int) (r : Bool) (hr : posS ⟨a, b, c, d⟩ = r) (he : EntM ⟨a, b, c, d⟩) (w : World) :
    Calls Tryd.prog 37 #[(.agg #[.int .i64 a, .int .i64 b, .int .i64 c, .int .i64 d])] w fun e w' => e = .returned (.bool r) ∧ Below w.heap.size w w' := by
  obtain ⟨ha, hb, hc, hd⟩ := he
  have HR := Lib.hid hr
  have HN := Lib.hid (fun w => fwNeg a b c d ha hb hc hd w)
  clear hr ha hb hc hd
  rcases h1 : posB a b c d with _ | _
  · have HP1 := Lib.hid (fun w => implPos_is false a b c d w h1)
    obtain ⟨r2, h2⟩ : ∃ r2, posB (-a) (-b) (-c) (-d) = r2 := ⟨_, rfl⟩
    have HP2 := Lib.hid (fun w => implPos_is r2 (-a) (-b) (-c) (-d) w h2)
    have HF := Lib.hid (show r2 = r by rw [← HR.out]; simp [posS, h1, h2])
    clear h1 h2
    go_enter Tryd.func37, Tryd.ntmps37
    go_wp2_with fail
    refine (HP1.out _).mono ?_
    rintro e w1 ⟨rfl, hb1⟩
    have B1 : Box w1 w.heap.size [.int .i64 a, .int .i64 b, .int .i64 c, .int .i64 d] := Box.below (Box.new _ _ _) hb1
    obtain ⟨_, _, _, _, _, _, _, _, _⟩ := B1.four
    have T1 : Below w.heap.size w w1 := by repeat (first | with_reducible exact own_refl _ | with_reducible assumption | with_reducible apply own_alloc | with_reducible apply own_drewN | with_reducible apply own_drew | ((with_reducible refine own_setCell ?_ ?_ _); rotate_left; focus (first | (simp; done) | (simp; omega))) | (with_reducible (refine own_trans ?_ (by assumption))))
    go_wp2_with fail
    refine (HN.out _).mono ?_
    rintro e w2 ⟨rfl, hb2⟩
    have T2 := own_trans T1 hb2
    go_wp2_with fail
    refine (HP2.out _).mono ?_
    rintro e w3 ⟨rfl, hb3⟩
    have T3 := own_trans T2 hb3
    go_wp2
    go_ret
    exact ⟨ret_bool HF.out, T3⟩
  · have HP1 := Lib.hid (fun w => implPos_is true a b c d w h1)
    have HF := Lib.hid (show true = r by rw [← HR.out]; simp [posS, h1])
    clear h1
    go_enter Tryd.func37, Tryd.ntmps37
    go_wp2_with fail
    refine (HP1.out _).mono ?_
    rintro e w1 ⟨rfl, hb1⟩
    have T1 : Below w.heap.size w w1 := by repeat (first | with_reducible exact own_refl _ | with_reducible assumption | with_reducible apply own_alloc | with_reducible apply own_drewN | with_reducible apply own_drew | ((with_reducible refine own_setCell ?_ ?_ _); rotate_left; focus (first | (simp; done) | (simp; omega))) | (with_reducible (refine own_trans ?_ (by assumption))))
    go_wp2
    go_ret
    exact ⟨ret_bool HF.out, T1⟩
/-- the cells of a matrix of four that lie one after another -/
def At4 (w : World) (g o : Nat) (m : M4) : Prop := w.cell? ⟨g, o, none⟩ = some (.int .i64 m.a) ∧ w.cell? ⟨g, o + 1, none⟩ = some (.int .i64 m.b) ∧ w.cell? ⟨g, o + 2, none⟩ = some (.int .i64 m.c) ∧ w.cell? ⟨g, o + 3, none⟩ = some (.int .i64 m.d)
theorem At4.below {w w' : World} {L g o : Nat} {m : M4} (h : At4 w g o m) (hg : g < L) (hb : Below L w w') : At4 w' g o m :=
  ⟨(hb.cell (p := ⟨g, o, none⟩) hg).trans h.1, (hb.cell (p := ⟨g, o + 1, none⟩) hg).trans h.2.1, (hb.cell (p := ⟨g, o + 2, none⟩) hg).trans h.2.2.1, (hb.cell (p := ⟨g, o + 3, none⟩) hg).trans h.2.2.2⟩
end Go.Proofs.YtfgbmddmmgipnaaDoor
