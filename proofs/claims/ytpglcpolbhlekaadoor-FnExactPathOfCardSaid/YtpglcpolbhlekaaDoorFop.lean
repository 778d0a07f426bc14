/- FractionOfPath: contracts of both sides. -/
import Derived.Test.YtpglcpolbhlekaaDoorPathM
namespace Go.Proofs.YtpglcpolbhlekaaDoor
open Go.ChangeShapes Go.WideShapes Go.ChangeAt Go.RowKit

theorem Box.reads2p {w : World} {g : Nat} {x0 x1 : Value} (h : Box w g [x0, x1]) (y0 y1 : Value) :
    (w.setCell ⟨g, 0, none⟩ y0).cell? ⟨g, 0, none⟩ = some y0 ∧ ((w.setCell ⟨g, 0, none⟩ y0).setCell ⟨g, 1, none⟩ y1).cell? ⟨g, 0, none⟩ = some y0 ∧ ((w.setCell ⟨g, 0, none⟩ y0).setCell ⟨g, 1, none⟩ y1).cell? ⟨g, 1, none⟩ = some y1 :=
  ⟨((h.set 0 (by simp) y0).two).2.1, (h.put2 y0 y1).two.2.1, (h.put2 y0 y1).two.2.2.1⟩
theorem specLow_top (p q x y : Int) (hx : lowP p q = x) (hy : lowQ p q = y) (hp : Mid p) (hq : Mid q) (h : ¬ (p = 0 ∧ q = 0)) (w : World) :
    Calls Tryd.prog 92 #[(.int .i64 p), (.int .i64 q)] w fun e w' => e = .returned (.agg #[.int .i64 x, .int .i64 y]) ∧ Below w.heap.size w w' := hx ▸ hy ▸ specLow_any p q hp hq h w
set_option maxHeartbeats 1000000 in
theorem medL_to (p q s t x y : Int) (ex : p + s = x) (ey : q + t = y) (hx : lowP x y = x) (hy : lowQ x y = y) (m1 : Mid x) (m2 : Mid y) (h0 : ¬ (x = 0 ∧ y = 0)) (w : World) :
    Calls Tryd.prog 66 #[(.agg #[.int .i64 p, .int .i64 q]), (.agg #[.int .i64 s, .int .i64 t])] w fun e w' => e = .returned (.agg #[.int .i64 x, .int .i64 y]) ∧ Below w.heap.size w w' := by
  subst ex ey
  have HX := Lib.hid hx
  have HY := Lib.hid hy
  have HM := Lib.hid m1
  have HM2 := Lib.hid m2
  have HN := Lib.hid h0
  obtain ⟨_, _⟩ := m1
  obtain ⟨_, _⟩ := m2
  clear hx hy h0
  have w1' : IntKind.i64.wrap (p + s) = p + s := IntWalk.i64_in _ (by omega)
  have w2' : IntKind.i64.wrap (q + t) = q + t := IntWalk.i64_in _ (by omega)
  go_enter Tryd.func66, Tryd.ntmps66
  go_wp2_with fail
  refine (specLow_top (p + s) (q + t) (p + s) (q + t) HX.out HY.out HM.out HM2.out HN.out _).mono ?_
  rintro e w1 ⟨rfl, hb1⟩
  have Z1 : Box w1 (w.heap.size + 1 + 1) [.int .i64 0, .int .i64 0] := Box.below (Box.newAt (by simp) _ _) hb1
  obtain ⟨_, _, _, _, _⟩ := Z1.two
  go_wp2
  obtain ⟨_, d1, d2⟩ := Z1.reads2p (.int .i64 (p + s)) (.int .i64 (q + t))
  exact bodyPost_ret (v := (.agg #[.int .i64 (p + s), .int .i64 (q + t)])) (by simp [results, Tryd.results66, go_sem, d1, d2]) rfl ⟨rfl, by repeat (first | with_reducible exact own_refl _ | with_reducible assumption | with_reducible apply own_alloc | with_reducible apply own_drewN | with_reducible apply own_drew | ((with_reducible refine own_setCell ?_ ?_ _); rotate_left; focus (first | (simp; done) | (simp; omega))) | (with_reducible (refine own_trans ?_ (by assumption))))⟩
/-- The mediant at a place. -/
theorem medPl (m : Mat) (k : Nat) (h : Pl m k) (hk : k ≤ 40) (w : World) :
    Calls Tryd.prog 66 #[(.agg #[.int .i64 m.b, .int .i64 m.d]), (.agg #[.int .i64 m.a, .int .i64 m.c])] w fun e w' => e = .returned (.agg #[.int .i64 (m.a + m.b), .int .i64 (m.c + m.d)]) ∧ Below w.heap.size w w' := by
  obtain ⟨l1, l2, m1, m2, h0⟩ := h.low hk
  exact medL_to _ _ _ _ _ _ (Int.add_comm _ _) (Int.add_comm _ _) l1 l2 m1 m2 h0 w
/-- What FractionOfPath answers, both ways. -/
theorem pathOk_letter (s : ByteArray) (k : Nat) (hk : k < s.size) (h : pathOk s.data.toList = true) : s[k] = 76 ∨ s[k] = 82 := by
  have hl : k < s.data.toList.length := by rw [str_len]; exact hk
  have := List.all_eq_true.1 h _ (List.getElem_mem hl)
  rw [str_at s k hk hl] at this
  simpa using this
theorem pathOk_step (s : ByteArray) (k : Nat) (hk : k < s.size) (h : pathOk (s.data.toList.take k) = true) (hc : s[k] = 76 ∨ s[k] = 82) : pathOk (s.data.toList.take (k + 1)) = true := by
  have hl : k < s.data.toList.length := by rw [str_len]; exact hk
  rw [List.take_succ_eq_append_getElem hl, str_at s k hk hl]
  simp only [pathOk, List.all_append, List.all_cons, List.all_nil, Bool.and_true, Bool.and_eq_true] at h ⊢
  refine ⟨h, ?_⟩
  simpa using hc
end Go.Proofs.YtpglcpolbhlekaaDoor
