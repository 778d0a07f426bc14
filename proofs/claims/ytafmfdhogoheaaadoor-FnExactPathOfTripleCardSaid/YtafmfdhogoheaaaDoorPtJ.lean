/- PathOfTriple: the program's side. -/
import Derived.Test.YtafmfdhogoheaaaDoorPtD
import Derived.Test.YtafmfdhogoheaaaDoorPtI
namespace Go.Proofs.YtafmfdhogoheaaaDoor
open Go.ChangeShapes Go.WideShapes Go.ChangeAt Go.RowKit

/-- What PathOfTriple returns. -/
def RetPt (p : ByteArray) (k : Int) (w : World) (e : Ending) (w' : World) : Prop := e = .returned (.tuple #[.string p, (.int .i64 k)]) ∧ Below w.heap.size w w'
theorem reverse_sz (g cap n : Nat) (f : Nat → Trp) (hn : n ≤ 1000000000) (h1 : 1 ≤ n) (w : World) (h : RowT w g n f) (L : Nat) (hL : L ≤ g) :
    Calls Tryd.prog 66 #[.slice (some ⟨g, 0, none⟩) n cap] w fun e w' => e = .returned (.tuple #[]) ∧ RowT w' g n (fun k => f (n - 1 - k)) ∧ Below L w w' :=
  (reverse_any g cap n f hn h1 w h).mono fun _ _ ⟨h1, h2, h3, _, _⟩ => ⟨h1, h2, h3.mono hL⟩
set_option maxHeartbeats 1000000 in
theorem implPt_no (a b c : Int) (h : isT a b c = false) (w : World) : Calls Tryd.prog 20 #[(.agg #[.int .i64 a, .int .i64 b, .int .i64 c])] w (RetPt ⟨#[]⟩ 1 w) := by
  have HC := Lib.hid (implDn_no a b c h)
  clear h
  go_enter Tryd.func20, Tryd.ntmps20
  go_wp2_with fail
  refine (HC.out _).mono ?_
  rintro e w1 ⟨v, rfl, s1, hb1⟩
  go_wp2
  go_ret2
  exact ⟨rfl, by repeat (first | with_reducible exact own_refl _ | with_reducible assumption | with_reducible apply own_alloc | with_reducible apply own_drewN | with_reducible apply own_drew | ((with_reducible refine own_setCell ?_ ?_ _); rotate_left; focus (first | (simp; done) | (simp; omega))) | (with_reducible (refine own_trans ?_ (by assumption))))⟩
set_option maxHeartbeats 1000000 in
theorem implPt_short (a b c : Int) (h : isT a b c = true) (n : Nat) (l : List Int) (hd : Dn a b c n l) (hn : n < 2) (w : World) (hid : FtT w) : Calls Tryd.prog 20 #[(.agg #[.int .i64 a, .int .i64 b, .int .i64 c])] w (RetPt ⟨#[]⟩ 4 w) := by
  have HC := Lib.hid (implDn_cap a b c h n l hd (by omega))
  obtain ⟨N, hN⟩ : ∃ N, n + 1 = N := ⟨_, rfl⟩
  rw [hN] at HC
  have hs : (N : Int) - 3 < 0 := by omega
  have hw : IntKind.i64.wrap ((N : Int) - 3) = (N : Int) - 3 := IntWalk.i64_in _ (by omega)
  have hw2 : wrap64 ((N : Int) - 3) = (N : Int) - 3 := IntWalk.wrap64_in _ (by omega)
  clear h hd hN hn
  go_enter Tryd.func20, Tryd.ntmps20
  go_wp2_with fail
  refine (HC.out _ (Rd.alloc hid _)).mono ?_
  rintro e w1 ⟨v, rfl, s1, hb1, ad, cap, rfl, hcap⟩
  go_wp2
  go_ret2
  exact ⟨by rfl, by repeat (first | with_reducible exact own_refl _ | with_reducible assumption | with_reducible apply own_alloc | with_reducible apply own_drewN | with_reducible apply own_drew | ((with_reducible refine own_setCell ?_ ?_ _); rotate_left; focus (first | (simp; done) | (simp; omega))) | (with_reducible (refine own_trans ?_ (by assumption))))⟩
set_option maxHeartbeats 1000000 in
theorem implPt_long (a b c : Int) (h : isT a b c = true) (n : Nat) (l : List Int) (hd : Dn a b c n l) (hn : 14 < n) (hn2 : n < 1000000000) (w : World) (hid : FtT w) : Calls Tryd.prog 20 #[(.agg #[.int .i64 a, .int .i64 b, .int .i64 c])] w (RetPt ⟨#[]⟩ 3 w) := by
  have HC := Lib.hid (implDn_cap a b c h n l hd hn2)
  obtain ⟨N, hN⟩ : ∃ N, n + 1 = N := ⟨_, rfl⟩
  rw [hN] at HC
  have hs : ¬ (N : Int) - 3 < 0 := by omega
  have hs2 : (12 : Int) < (N : Int) - 3 := by omega
  have hw : IntKind.i64.wrap ((N : Int) - 3) = (N : Int) - 3 := IntWalk.i64_in _ (by omega)
  have hw2 : wrap64 ((N : Int) - 3) = (N : Int) - 3 := IntWalk.wrap64_in _ (by omega)
  clear h hd hN hn hn2
  go_enter Tryd.func20, Tryd.ntmps20
  go_wp2_with fail
  refine (HC.out _ (Rd.alloc hid _)).mono ?_
  rintro e w1 ⟨v, rfl, s1, hb1, ad, cap, rfl, hcap⟩
  go_wp2
  go_ret2
  exact ⟨rfl, by repeat (first | with_reducible exact own_refl _ | with_reducible assumption | with_reducible apply own_alloc | with_reducible apply own_drewN | with_reducible apply own_drew | ((with_reducible refine own_setCell ?_ ?_ _); rotate_left; focus (first | (simp; done) | (simp; omega))) | (with_reducible (refine own_trans ?_ (by assumption))))⟩
set_option maxHeartbeats 2000000 in
theorem implPt_yes (a b c : Int) (h : isT a b c = true) (m : Nat) (l : List Int) (hd : Dn a b c (m + 2) l) (hm : m ≤ 12) (w : World) (hid : FtT w) :
    Calls Tryd.prog 20 #[(.agg #[.int .i64 a, .int .i64 b, .int .i64 c])] w (RetPt ⟨(upP (triAt (a :: b :: c :: l)) m m).1.toArray⟩ 0 w) := by
  have HC := Lib.hid (implDn_cap a b c h (m + 2) l hd (by omega))
  have hx := ((hd.way h).last2 (by omega)).1
  simp only [show m + 2 - 2 = m by omega] at hx
  obtain ⟨xs, hxs⟩ : ∃ xs, a :: b :: c :: l = xs := ⟨_, rfl⟩
  rw [hxs] at HC hx ⊢
  obtain ⟨N, hN⟩ : ∃ N, m + 2 + 1 = N := ⟨_, rfl⟩
  rw [hN] at HC
  have hs : ¬ (N : Int) - 3 < 0 := by omega
  have hs2 : ¬ (12 : Int) < (N : Int) - 3 := by omega
  have hw : IntKind.i64.wrap ((N : Int) - 3) = (N : Int) - 3 := IntWalk.i64_in _ (by omega)
  have hw2 : wrap64 ((N : Int) - 3) = (N : Int) - 3 := IntWalk.wrap64_in _ (by omega)
  have HN := Lib.hid hN
  have HX := Lib.hid hx
  obtain ⟨R, hR⟩ : ∃ R : ByteArray, R = ⟨(upP (triAt xs) m m).1.toArray⟩ := ⟨_, rfl⟩
  rw [← hR]
  have HR := Lib.hid hR
  clear h hd hN hx hxs hR
  go_enter Tryd.func20, Tryd.ntmps20
  go_wp2_with fail
  refine (HC.out _ (Rd.alloc hid _)).mono ?_
  rintro e w1 ⟨v, rfl, s1, hb1, ad, cap, rfl, hcap⟩
  have T1 : Below w.heap.size w w1 := by repeat (first | with_reducible exact own_refl _ | with_reducible assumption | with_reducible apply own_alloc | with_reducible apply own_drewN | with_reducible apply own_drew | ((with_reducible refine own_setCell ?_ ?_ _); rotate_left; focus (first | (simp; done) | (simp; omega))) | (with_reducible (refine own_trans ?_ (by assumption))))
  obtain ⟨_, _, ad', cap', hv, hcell⟩ := s1
  injection hv with e1 _ e3
  subst e1 e3
  obtain ⟨g, hg, hgL, _, hcs⟩ := hcell (by have := HN.out; omega)
  subst hg
  have RT : Hid (RowT w1 g N (triAt xs)) := Lib.hid ⟨by assumption, fun k hk => by
    have q0 := hcs (3 * k) (by omega)
    have q1 := hcs (3 * k + 1) (by omega)
    have q2 := hcs (3 * k + 2) (by omega)
    rw [Nat.mul_comm k 3]
    exact ⟨⟨q0.1, q1.1, q2.1⟩, ⟨q0.2, q1.2, q2.2⟩⟩⟩
  clear hcs hcell
  simp only [World.size_alloc] at hgL
  go_wp2_with fail
  refine (reverse_sz g cap N (triAt xs) (by have := HN.out; omega) (by have := HN.out; omega) _ RT.out w.heap.size (by omega)).mono ?_
  rintro e w2 ⟨rfl, R2, hb2⟩
  have T2 := T1.trans hb2
  have hsl := sliceT2 g N cap (by have := HN.out; omega) hcap
  have HSP : Hid (∀ W, W = w2 → Calls Tryd.prog 67 #[.slice (some ⟨g, 6, none⟩) (N - 2) (cap - 2)] W fun e w' => e = .returned (.string R) ∧ Below W.heap.size W w') := Lib.hid (by
    rintro W rfl
    have eN := HN.out
    rw [show N - 2 = m + 1 by omega, HR.out]
    refine spell_any g m (cap - 2) (triAt xs) (by omega) (by omega) HX.out _ ?_
    rw [show m + 3 = N by omega]
    exact R2.congr fun k hk => by rw [show N - 1 - k = m + 2 - k by omega])
  clear R2 hb2 RT
  go_wp2_with fail
  refine (HSP.out _ rfl).mono ?_
  rintro e w3 ⟨rfl, hb3⟩
  have T3 := own_trans T2 hb3
  go_wp2
  go_ret2
  exact ⟨rfl, T3⟩
end Go.Proofs.YtafmfdhogoheaaaDoor
