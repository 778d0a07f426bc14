/- PathOf: contracts of both sides. -/
import Derived.Test.YtpglcpolbhlekaaDoorRop
import Derived.Test.YtpglcpolbhlekaaDoorPth
import Derived.Test.YtpglcpolbhlekaaDoorDoorT
namespace Go.Proofs.YtpglcpolbhlekaaDoor
open Go.ChangeShapes Go.WideShapes Go.ChangeAt Go.RowKit

/-- What a call that makes a path gives back. -/
def RetP (l : ByteArray) (k : Int) (w : World) (e : Ending) (w' : World) : Prop := e = .returned (.tuple #[.string l, (.int .i64 k)]) ∧ Below w.heap.size w w'
theorem cloT_no (p q : Int) (g1 : Nat) (h1 : isF p q = false) (a : Addr) (w : World) (B1 : Box w g1 [.int .i64 p, .int .i64 q]) (hE : Er w a) :
    Calls Tryd.prog 43 #[.pointer (some ⟨g1, 0, none⟩)] w fun e w' => e = errPanic a ∧ Below w.heap.size w w' := by
  have H := Lib.hid h1
  have HE := Lib.hid hE
  clear h1 hE
  obtain ⟨_, _, _, _, _⟩ := B1.two
  go_enter Tryd.func43, Tryd.ntmps43
  go_wp2_with fail
  refine (rop_no p q H.out a _ HE.out).mono ?_
  unfold errPanic
  rintro e w1 ⟨rfl, hb1⟩
  go_wp2
  exact ⟨rfl, rfl, by repeat (first | with_reducible exact own_refl _ | with_reducible assumption | with_reducible apply own_alloc | with_reducible apply own_drewN | with_reducible apply own_drew | ((with_reducible refine own_setCell ?_ ?_ _); rotate_left; focus (first | (simp; done) | (simp; omega))) | (with_reducible (refine own_trans ?_ (by assumption))))⟩
set_option maxHeartbeats 1000000 in
theorem cloT_code (p q k : Int) (g1 : Nat) (hk : (k != 0) = true) (hr : ∀ w, Calls Tryd.prog 44 #[(.agg #[.int .i64 p, .int .i64 q])] w (RetS [] k w)) (w : World) (B1 : Box w g1 [.int .i64 p, .int .i64 q]) :
    Calls Tryd.prog 43 #[.pointer (some ⟨g1, 0, none⟩)] w (RetP ⟨#[]⟩ k w) := by
  have HR := Lib.hid hr
  clear hr
  obtain ⟨_, _, _, _, _⟩ := B1.two
  go_enter Tryd.func43, Tryd.ntmps43
  go_wp2_with fail
  refine (HR.out _).mono ?_
  rintro e w1 ⟨v, rfl, hS, hb1⟩
  obtain ⟨_, a, cap, rfl, _⟩ := hS
  go_wp2
  go_ret2
  exact ⟨rfl, by repeat (first | with_reducible exact own_refl _ | with_reducible assumption | with_reducible apply own_alloc | with_reducible apply own_drewN | with_reducible apply own_drew | ((with_reducible refine own_setCell ?_ ?_ _); rotate_left; focus (first | (simp; done) | (simp; omega))) | (with_reducible (refine own_trans ?_ (by assumption))))⟩
set_option maxHeartbeats 1000000 in
theorem cloT_big (p q : Int) (xs : List Int) (hx : ∀ x ∈ xs, 0 ≤ x) (hn : xs.length ≤ 10000000000) (S : Int) (hS : sumI xs = S) (hS1 : S ≤ 1000000000000) (hS2 : 200 < S) (g1 : Nat) (hr : ∀ w, Calls Tryd.prog 44 #[(.agg #[.int .i64 p, .int .i64 q])] w (RetS xs 0 w)) (w : World) (B1 : Box w g1 [.int .i64 p, .int .i64 q]) :
    Calls Tryd.prog 43 #[.pointer (some ⟨g1, 0, none⟩)] w (RetP ⟨#[]⟩ 3 w) := by
  have HR := Lib.hid hr
  have HX := Lib.hid hx
  have HS := Lib.hid hS
  clear hr hx hS
  obtain ⟨_, _, _, _, _⟩ := B1.two
  go_enter Tryd.func43, Tryd.ntmps43
  go_wp2_with fail
  refine (HR.out _).mono ?_
  rintro e w1 ⟨v, rfl, hs, hb1⟩
  obtain ⟨hu, ad, cap, rfl, hc⟩ := hs
  have HCS : Hid (Calls Tryd.prog 38 #[.slice ad xs.length cap] w1 fun e w' => e = .returned (.int .i64 S) ∧ w1 = w') := Lib.hid (by
    rcases Nat.eq_zero_or_pos xs.length with h0 | h0
    · exact sumOf_any xs HX.out S HS.out (by omega) 0 0 cap ad (by omega) (fun h => by omega) w1 (fun k hk => by omega)
    · obtain ⟨g, off, had, _, _, hcc⟩ := hc h0
      exact sumOf_any xs HX.out S HS.out (by omega) g off cap ad (by omega) (fun _ => had) w1 (fun k hk => (hcc k hk).1))
  clear hc
  go_wp2_with fail
  refine HCS.out.mono ?_
  rintro e w2 ⟨rfl, rfl⟩
  go_wp2
  go_ret2
  exact ⟨rfl, by repeat (first | with_reducible exact own_refl _ | with_reducible assumption | with_reducible apply own_alloc | with_reducible apply own_drewN | with_reducible apply own_drew | ((with_reducible refine own_setCell ?_ ?_ _); rotate_left; focus (first | (simp; done) | (simp; omega))) | (with_reducible (refine own_trans ?_ (by assumption))))⟩
set_option maxHeartbeats 1000000 in
theorem cloT_yes (p q : Int) (xs : List Int) (hx : ∀ x ∈ xs, 0 ≤ x) (hn : xs.length ≤ 10000000000) (S : Int) (hS : sumI xs = S) (hS2 : S ≤ 200) (g1 : Nat) (hr : ∀ w, Calls Tryd.prog 44 #[(.agg #[.int .i64 p, .int .i64 q])] w (RetS xs 0 w)) (w : World) (B1 : Box w g1 [.int .i64 p, .int .i64 q]) :
    Calls Tryd.prog 43 #[.pointer (some ⟨g1, 0, none⟩)] w (RetP ⟨(spellB [82] [76] xs).toArray⟩ 0 w) := by
  have HR := Lib.hid hr
  have HX := Lib.hid hx
  have HS := Lib.hid hS
  clear hr hx hS
  obtain ⟨_, _, _, _, _⟩ := B1.two
  go_enter Tryd.func43, Tryd.ntmps43
  go_wp2_with fail
  refine (HR.out _).mono ?_
  rintro e w1 ⟨v, rfl, hs, hb1⟩
  obtain ⟨hu, ad, cap, rfl, hc⟩ := hs
  have T1 : Below w.heap.size w w1 := by repeat (first | with_reducible exact own_refl _ | with_reducible assumption | with_reducible apply own_alloc | with_reducible apply own_drewN | with_reducible apply own_drew | ((with_reducible refine own_setCell ?_ ?_ _); rotate_left; focus (first | (simp; done) | (simp; omega))) | (with_reducible (refine own_trans ?_ (by assumption))))
  have HCS : Hid (Calls Tryd.prog 38 #[.slice ad xs.length cap] w1 fun e w' => e = .returned (.int .i64 S) ∧ w1 = w') := Lib.hid (by
    rcases Nat.eq_zero_or_pos xs.length with h0 | h0
    · exact sumOf_any xs HX.out S HS.out (by omega) 0 0 cap ad (by omega) (fun h => by omega) w1 (fun k hk => by omega)
    · obtain ⟨g, off, had, _, _, hcc⟩ := hc h0
      exact sumOf_any xs HX.out S HS.out (by omega) g off cap ad (by omega) (fun _ => had) w1 (fun k hk => (hcc k hk).1))
  have HCP : Hid (Calls Tryd.prog 39 #[.slice ad xs.length cap, .string ⟨#[82]⟩, .string ⟨#[76]⟩] w1 fun e w' => e = .returned (.string ⟨(spellB [82] [76] xs).toArray⟩) ∧ Below w1.heap.size w1 w') := Lib.hid (by
    rcases Nat.eq_zero_or_pos xs.length with h0 | h0
    · exact spellRuns_any xs HX.out (by rw [HS.out]; exact hS2) ⟨#[82]⟩ ⟨#[76]⟩ (by decide) (by decide) 0 0 cap ad (by omega) (fun h => by omega) w1 (fun h => by omega) (fun k hk => by omega)
    · obtain ⟨g, off, had, _, hgU, hcc⟩ := hc h0
      exact spellRuns_any xs HX.out (by rw [HS.out]; exact hS2) ⟨#[82]⟩ ⟨#[76]⟩ (by decide) (by decide) g off cap ad (by omega) (fun _ => had) w1 (fun _ => by omega) (fun k hk => (hcc k hk).1))
  clear hc
  go_wp2_with fail
  refine HCS.out.mono ?_
  rintro e w2 ⟨rfl, rfl⟩
  go_wp2_with fail
  refine HCP.out.mono ?_
  rintro e w3 ⟨rfl, hb3⟩
  go_wp2
  go_ret2
  exact ⟨rfl, own_trans T1 hb3⟩

set_option maxHeartbeats 1000000 in
theorem implPth_ok (p q : Int) (l : ByteArray) (c : Int) (w : World) (hclo : ∀ (w0 : World) (g1 : Nat), Box w0 g1 [.int .i64 p, .int .i64 q] → Calls Tryd.prog 43 #[.pointer (some ⟨g1, 0, none⟩)] w0 (RetP l c w0)) :
    Calls Tryd.prog 19 #[(.agg #[.int .i64 p, .int .i64 q])] w (RetP l c w) := by
  have hmf : ∀ (fn : Fn) (first cap : Array Value) (w : World), (Instr.makeFunc fn first cap).run Tryd.prog w = .ok (.func fn first cap) w := fun _ _ _ _ => rfl
  have HC := Lib.hid hclo
  clear hclo
  go_enter Tryd.func19, Tryd.ntmps19
  go_wp2_with fail
  refine (doorT_yes _ _ l c _ (fun _ => by kernel_rfl) (fun w0 hb0 => HC.out w0 w.heap.size ((Box.new _ _ _).below hb0))).mono ?_
  rintro e w1 ⟨rfl, hb1⟩
  go_wp2
  go_ret2
  exact ⟨rfl, by repeat (first | with_reducible exact own_refl _ | with_reducible assumption | with_reducible apply own_alloc | with_reducible apply own_drewN | with_reducible apply own_drew | ((with_reducible refine own_setCell ?_ ?_ _); rotate_left; focus (first | (simp; done) | (simp; omega))) | (with_reducible (refine own_trans ?_ (by assumption))))⟩
set_option maxHeartbeats 1000000 in
theorem implPth_no (p q : Int) (h : isF p q = false) (a : Addr) (w : World) (hE : Er w a) :
    Calls Tryd.prog 19 #[(.agg #[.int .i64 p, .int .i64 q])] w (RetP ⟨#[]⟩ 1 w) := by
  have hmf : ∀ (fn : Fn) (first cap : Array Value) (w : World), (Instr.makeFunc fn first cap).run Tryd.prog w = .ok (.func fn first cap) w := fun _ _ _ _ => rfl
  have H := Lib.hid h
  have HE := Lib.hid hE
  clear h hE
  go_enter Tryd.func19, Tryd.ntmps19
  go_wp2_with fail
  refine (doorT_no _ _ a _ (fun _ => by kernel_rfl) (fun w0 hb0 => cloT_no p q w.heap.size H.out a w0 ((Box.new _ _ _).below hb0) ((HE.out.alloc _).below hb0))).mono ?_
  rintro e w1 ⟨rfl, hb1⟩
  go_wp2
  go_ret2
  exact ⟨rfl, by repeat (first | with_reducible exact own_refl _ | with_reducible assumption | with_reducible apply own_alloc | with_reducible apply own_drewN | with_reducible apply own_drew | ((with_reducible refine own_setCell ?_ ?_ _); rotate_left; focus (first | (simp; done) | (simp; omega))) | (with_reducible (refine own_trans ?_ (by assumption))))⟩

set_option maxHeartbeats 1000000 in
theorem specPth_code (p q k : Int) (hk : (k == 0) = false) (hg : ∀ w, Calls Tryd.prog 40 #[(.agg #[.int .i64 p, .int .i64 q])] w fun e w' => e = .returned (.int .i64 k) ∧ Below w.heap.size w w') (w : World) :
    Calls Tryd.prog 18 #[(.agg #[.int .i64 p, .int .i64 q])] w (RetP ⟨#[]⟩ k w) := by
  have HG := Lib.hid hg
  have hk' : (k != 0) = true := by simpa using hk
  clear hg
  go_enter Tryd.func18, Tryd.ntmps18
  go_wp2_with fail
  refine (HG.out _).mono ?_
  rintro e w1 ⟨rfl, hb1⟩
  go_wp2
  go_ret2
  exact ⟨rfl, by repeat (first | with_reducible exact own_refl _ | with_reducible assumption | with_reducible apply own_alloc | with_reducible apply own_drewN | with_reducible apply own_drew | ((with_reducible refine own_setCell ?_ ?_ _); rotate_left; focus (first | (simp; done) | (simp; omega))) | (with_reducible (refine own_trans ?_ (by assumption))))⟩
set_option maxRecDepth 100000 in
set_option maxHeartbeats 1000000 in
theorem specPth_ok (p q : Int) (l : List UInt8) (r : ByteArray) (k : Int) (hl1 : l.length ≤ 1000000) (hl : (200 < l.length ∧ r = ⟨#[]⟩ ∧ k = 3) ∨ (l.length ≤ 200 ∧ r = ⟨l.toArray⟩ ∧ k = 0)) (hg : ∀ w, Calls Tryd.prog 40 #[(.agg #[.int .i64 p, .int .i64 q])] w fun e w' => e = .returned (.int .i64 0) ∧ Below w.heap.size w w')
    (hw : ∀ w, Calls Tryd.prog 41 #[(.agg #[.int .i64 p, .int .i64 q])] w fun e w' => ∃ (m : Mat) (v : Value), e = .returned (.tuple #[(.agg #[.int .i64 m.b, .int .i64 m.d]), (.agg #[.int .i64 m.a, .int .i64 m.c]), v]) ∧ GrB w' (w.heap.size + 1) v (nums l) ∧ Below w.heap.size w w') (w : World) :
    Calls Tryd.prog 18 #[(.agg #[.int .i64 p, .int .i64 q])] w (RetP r k w) := by
  have HG := Lib.hid hg
  have HW := Lib.hid hw
  have HLL := Lib.hid hl
  have HNL := Lib.hid (show (nums l).length = l.length by simp [nums])
  clear hg hw hl
  go_enter Tryd.func18, Tryd.ntmps18
  go_wp2_with fail
  refine (HG.out _).mono ?_
  rintro e w1 ⟨rfl, hb1⟩
  have A1 : Box w1 w.heap.size [.int .i64 p, .int .i64 q] := Box.below (by first | exact Box.new _ _ _ | exact Box.alloc (Box.new _ _ _) _) hb1
  have T1 : Below w.heap.size w w1 := by repeat (first | with_reducible exact own_refl _ | with_reducible assumption | with_reducible apply own_alloc | with_reducible apply own_drewN | with_reducible apply own_drew | ((with_reducible refine own_setCell ?_ ?_ _); rotate_left; focus (first | (simp; done) | (simp; omega))) | (with_reducible (refine own_trans ?_ (by assumption))))
  obtain ⟨_, _, _, _, _⟩ := A1.two
  go_wp2_with fail
  refine (HW.out _).mono ?_
  rintro e w2 ⟨m, v, rfl, hG, hb2⟩
  have T2 := own_trans T1 hb2
  have HCV := Lib.hid (conv_gr ((hG.alloc (.cells #[(.int .i64 m.b), (.int .i64 m.d)] 30)).alloc (.cells #[(.int .i64 m.a), (.int .i64 m.c)] 30)))
  obtain ⟨ad, cap, hv⟩ := hG.shape
  rw [HNL.out] at hv
  subst hv
  have hcv := HCV.out
  obtain ⟨N, hN⟩ : ∃ N : Nat, l.length = N := ⟨_, rfl⟩
  rw [hN] at hcv hl1
  have HLN := Lib.hid hN
  clear hG hb2 hb1 A1
  rw [hN]
  clear hN
  by_cases hbig : (200 : Int) < N
  · obtain ⟨rfl, rfl⟩ : r = ⟨#[]⟩ ∧ k = 3 := by
      rcases HLL.out with h | h
      · exact h.2
      · rw [HLN.out] at h; omega
    go_wp2
    go_ret2
    exact ⟨rfl, by repeat (first | with_reducible exact own_refl _ | with_reducible assumption | with_reducible apply own_alloc | with_reducible apply own_drewN | with_reducible apply own_drew | ((with_reducible refine own_setCell ?_ ?_ _); rotate_left; focus (first | (simp; done) | (simp; omega))) | (with_reducible (refine own_trans ?_ (by assumption))))⟩
  · obtain ⟨rfl, rfl⟩ : r = ⟨l.toArray⟩ ∧ k = 0 := by
      rcases HLL.out with h | h
      · rw [HLN.out] at h; omega
      · exact h.2
    go_wp2
    go_ret2
    exact ⟨rfl, by repeat (first | with_reducible exact own_refl _ | with_reducible assumption | with_reducible apply own_alloc | with_reducible apply own_drewN | with_reducible apply own_drew | ((with_reducible refine own_setCell ?_ ?_ _); rotate_left; focus (first | (simp; done) | (simp; omega))) | (with_reducible (refine own_trans ?_ (by assumption))))⟩
end Go.Proofs.YtpglcpolbhlekaaDoor
