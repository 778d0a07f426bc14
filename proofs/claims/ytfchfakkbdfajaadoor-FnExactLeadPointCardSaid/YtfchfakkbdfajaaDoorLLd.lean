/- The walk of the law FnExactLeadPoint, where both sides answer alike. -/
import Derived.Test.YtfchfakkbdfajaaDoorLdQ
namespace Go.Proofs.YtfchfakkbdfajaaDoor
open Go.ChangeShapes Go.WideShapes Go.ChangeAt Go.RowKit

set_option maxHeartbeats 8000000 in
theorem lawLeadPoint_of (s t : List Int) (ad bd : Option Addr) (ca cb : Nat) (x0 : ByteArray) (x1 : Int) (r0 : Int) (r1 : Int)
    (hs : ∀ (w : World) (u : Value), Ac w u s t → Calls Tryd.prog 8 #[u, .string x0, (.int .i64 x1)] w fun e w' => e = .returned (.tuple #[(.int .i64 r0), (.int .i64 r1)]) ∧ Below w.heap.size w w')
    (hi : ∀ (w : World) (u : Value), Ac w u s t → Idn w → MxS w → Calls Tryd.prog 10 #[u, .string x0, (.int .i64 x1)] w fun e w' => e = .returned (.tuple #[(.int .i64 r0), (.int .i64 r1)]) ∧ Below w.heap.size w w') (w : World)
    (ra : Rs w ad s) (rb : Rs w bd t) (ns : s.length ≤ 9223372036854775807) (nt : t.length ≤ 9223372036854775807) (hid0 : Idn w) (hid1 : MxS w) :
    Calls Tryd.prog 3 #[.agg #[.slice ad s.length ca, .slice bd t.length cb], .string x0, (.int .i64 x1)] w fun e w' => e = .returned (.bool true) ∧ Below w.heap.size w w' := by
  by_cases hlen : 1048576 < x0.size
  · clear hs hi ra rb
    generalize s.length = n at *
    generalize t.length = m at *
    go_enter Tryd.func3, Tryd.ntmps3
    go_wp2
    go_ret
    exact ⟨rfl, by repeat (first | with_reducible exact own_refl _ | with_reducible assumption | with_reducible apply own_alloc | with_reducible apply own_drewN | with_reducible apply own_drew | ((with_reducible refine own_setCell ?_ ?_ _); rotate_left; focus (first | (simp; done) | (simp; omega))) | (with_reducible (refine own_trans ?_ (by assumption))))⟩
  by_cases hsz : s.length + t.length ≤ 1048576
  · have HZ := Lib.hid (fun w => szA_yes ad bd s.length t.length ca cb hsz w)
    have HT := Lib.hid (fun w' (h : Below w.heap.size w w') => toAc_any ad bd ca cb s t (by omega) (by omega) w' (ra.below h) (rb.below h))
    have HE := Lib.hid (fun u v L L' w hu hv => eqA_same u v s t L L' w (by omega) (by omega) hu hv)
    have HS := Lib.hid hs
    have HI := Lib.hid hi
    clear hs hi ra rb ns nt
    generalize hn : s.length = n at *
    generalize hm : t.length = m at *
    have HN := Lib.hid (And.intro hn hm)
    clear hn hm
    go_enter Tryd.func3, Tryd.ntmps3
    go_wp2_with fail
    refine (HZ.out _).mono ?_
    rintro e w1 ⟨rfl, hb1⟩
    have Bw1_0 : Box w1 (w.heap.size) [.slice ad n ca, .slice bd m cb] := by refine Box.below ?_ hb1; repeat (first | with_reducible assumption | with_reducible exact Box.new _ _ _ | (with_reducible refine Box.newAt ?_ _ _; (simp; done)) | with_reducible apply Box.alloc | with_reducible apply Box.drewN | with_reducible apply Box.drew)
    obtain ⟨_, _, _, _, _⟩ := Bw1_0.two
    have T1 : Below w.heap.size w w1 := by repeat (first | with_reducible exact own_refl _ | with_reducible assumption | with_reducible apply own_alloc | with_reducible apply own_drewN | with_reducible apply own_drew | ((with_reducible refine own_setCell ?_ ?_ _); rotate_left; focus (first | (simp; done) | (simp; omega))) | (with_reducible (refine own_trans ?_ (by assumption))))
    go_wp2_with fail
    refine (HT.out _ T1).mono ?_
    rintro e w2 ⟨u2, rfl, hA2, hb2⟩
    have Bw2_0 : Box w2 (w.heap.size) [.slice ad n ca, .slice bd m cb] := by refine Box.below ?_ hb2; repeat (first | with_reducible assumption | with_reducible exact Box.new _ _ _ | (with_reducible refine Box.newAt ?_ _ _; (simp; done)) | with_reducible apply Box.alloc | with_reducible apply Box.drewN | with_reducible apply Box.drew)
    obtain ⟨_, _, _, _, _⟩ := Bw2_0.two
    have T2 : Below w.heap.size w w2 := by repeat (first | with_reducible exact own_refl _ | with_reducible assumption | with_reducible apply own_alloc | with_reducible apply own_drewN | with_reducible apply own_drew | ((with_reducible refine own_setCell ?_ ?_ _); rotate_left; focus (first | (simp; done) | (simp; omega))) | (with_reducible (refine own_trans ?_ (by assumption))))
    go_wp2_with fail
    refine (HS.out _ _ hA2.ac).mono ?_
    rintro e w3 ⟨rfl, hb3⟩
    have Bw3_0 : Box w3 (w.heap.size) [.slice ad n ca, .slice bd m cb] := by refine Box.below ?_ hb3; repeat (first | with_reducible assumption | with_reducible exact Box.new _ _ _ | (with_reducible refine Box.newAt ?_ _ _; (simp; done)) | with_reducible apply Box.alloc | with_reducible apply Box.drewN | with_reducible apply Box.drew)
    obtain ⟨_, _, _, _, _⟩ := Bw3_0.two
    have T3 : Below w.heap.size w w3 := by repeat (first | with_reducible exact own_refl _ | with_reducible assumption | with_reducible apply own_alloc | with_reducible apply own_drewN | with_reducible apply own_drew | ((with_reducible refine own_setCell ?_ ?_ _); rotate_left; focus (first | (simp; done) | (simp; omega))) | (with_reducible (refine own_trans ?_ (by assumption))))
    clear hb1 hb2 hA2
    go_wp2_with fail

    refine (HT.out _ T3).mono ?_
    rintro e w4 ⟨u4, rfl, hA4, hb4⟩
    have Bw4_0 : Box w4 (w.heap.size) [.slice ad n ca, .slice bd m cb] := by refine Box.below ?_ hb4; repeat (first | with_reducible assumption | with_reducible exact Box.new _ _ _ | (with_reducible refine Box.newAt ?_ _ _; (simp; done)) | with_reducible apply Box.alloc | with_reducible apply Box.drewN | with_reducible apply Box.drew)
    obtain ⟨_, _, _, _, _⟩ := Bw4_0.two
    have T4 : Below w.heap.size w w4 := by repeat (first | with_reducible exact own_refl _ | with_reducible assumption | with_reducible apply own_alloc | with_reducible apply own_drewN | with_reducible apply own_drew | ((with_reducible refine own_setCell ?_ ?_ _); rotate_left; focus (first | (simp; done) | (simp; omega))) | (with_reducible (refine own_trans ?_ (by assumption))))
    obtain ⟨a4, c4, b4, d4, e4⟩ := hA4.shape
    subst e4
    rw [HN.out.1, HN.out.2] at *
    have hA5 := hA4.own (own_alloc (own_refl w4) (.cells #[.slice a4 n c4, .slice b4 m d4] 28))
    have T5 := own_alloc T4 (.cells #[.slice a4 n c4, .slice b4 m d4] 28)
    have B5 : Box (w4.alloc (.cells #[.slice a4 n c4, .slice b4 m d4] 28)) w4.heap.size [.slice a4 n c4, .slice b4 m d4] := Box.new _ _ _
    have C5 := Bw4_0.alloc (.cells #[.slice a4 n c4, .slice b4 m d4] 28)
    have hne : w.heap.size < w4.heap.size := Bw4_0.1
    clear hA4 hb4 hb3
    go_wp2_with fail
    generalize w4.alloc (.cells #[.slice a4 n c4, .slice b4 m d4] 28) = w5 at *
    generalize w4.heap.size = g4 at *
    refine (HI.out _ _ hA5.ac (Rd.below hid0 T5) (Rd.below hid1 T5)).mono ?_
    rintro e w6 ⟨rfl, hb6⟩
    have T6 := own_trans T5 hb6
    have hA6 := hA5.own hb6
    have B6 := B5.below hb6
    have C6 := C5.below hb6
    obtain ⟨-, b60, b61, -, -⟩ := B6.two
    obtain ⟨-, c60, c61, -, -⟩ := C6.two
    clear hA5 T5 B5 C5 hb6
    go_wp2_with fail
    go_region_held3 (fun w' => w'.cell? ⟨g4, 0, none⟩ = some (.slice a4 n c4) ∧ w'.cell? ⟨g4, 1, none⟩ = some (.slice b4 m d4) ∧ w'.cell? ⟨w.heap.size, 0, none⟩ = some (.slice ad n ca) ∧ w'.cell? ⟨w.heap.size, 1, none⟩ = some (.slice bd m cb)) (go_keep)
      (first
        | (go_at_call 11; (with_reducible refine (HE.out _ _ _ _ _ hA7 hR7).mono ?_); rintro e w8 ⟨rfl, hb8⟩; have T8 := own_trans T7 hb8; have B8 := B7.below hb8; have C8 := C7.below hb8; obtain ⟨-, b80, b81, -, -⟩ := B8.two; obtain ⟨-, c80, c81, -, -⟩ := C8.two; clear hb8)
        | (go_at_call 9; (with_reducible refine (HT.out _ (by repeat (first | with_reducible exact own_refl _ | with_reducible assumption | with_reducible apply own_alloc | with_reducible apply own_drewN | with_reducible apply own_drew | ((with_reducible refine own_setCell ?_ ?_ _); rotate_left; focus (first | (simp; done) | (simp; omega))) | (with_reducible (refine own_trans ?_ (by assumption)))))).mono ?_); rintro e w7 ⟨u7, rfl, hR7, hb7⟩; have T7 := own_trans (own_drew T6) hb7; have hA7 := (hA6.drew).own hb7; have B7 := (B6.drew).below hb7; have C7 := (C6.drew).below hb7; obtain ⟨-, b70, b71, -, -⟩ := B7.two; obtain ⟨-, c70, c71, -, -⟩ := C7.two; clear hb7))
    all_goals
      go_wp2
      go_ret
      exact ⟨rfl, by repeat (first | with_reducible exact own_refl _ | with_reducible assumption | with_reducible apply own_alloc | with_reducible apply own_drewN | with_reducible apply own_drew | ((with_reducible refine own_setCell ?_ ?_ _); rotate_left; focus (first | (simp; done) | (simp; omega))) | (with_reducible (refine own_trans ?_ (by assumption))))⟩
  · have HZ := Lib.hid (fun w => szA_no ad bd s.length t.length ca cb (by omega) (by omega) hsz w)
    clear hs hi ra rb
    generalize s.length = n at *
    generalize t.length = m at *
    go_enter Tryd.func3, Tryd.ntmps3
    go_wp2_with fail
    refine (HZ.out _).mono ?_
    rintro e w1 ⟨rfl, hb1⟩
    go_wp2
    go_ret
    exact ⟨rfl, by repeat (first | with_reducible exact own_refl _ | with_reducible assumption | with_reducible apply own_alloc | with_reducible apply own_drewN | with_reducible apply own_drew | ((with_reducible refine own_setCell ?_ ?_ _); rotate_left; focus (first | (simp; done) | (simp; omega))) | (with_reducible (refine own_trans ?_ (by assumption))))⟩
theorem lawLeadPoint_walk (s t : List Int) (ad bd : Option Addr) (ca cb : Nat) (bs : ByteArray) (i : Int) (w : World) (ra : Rs w ad s) (rb : Rs w bd t) (ns : s.length ≤ 9223372036854775807) (nt : t.length ≤ 9223372036854775807) (hbs : bs.size ≤ 9223372036854775807) (_ : I64 i) (hmx : MxS w) (hid : Idn w) :
    Calls Tryd.prog 3 #[.agg #[.slice ad s.length ca, .slice bd t.length cb], .string bs, (.int .i64 i)] w fun e w' => e = .returned (.bool true) ∧ Below w.heap.size w w' :=
  lawLeadPoint_of s t ad bd ca cb bs i _ _ (fun w u h => LPs_is s t ns bs hbs i u w h) (fun w u h h1 h2 => LPi_is s t ns bs hbs i u w h h1 h2) w ra rb ns nt hid hmx
end Go.Proofs.YtfchfakkbdfajaaDoor
