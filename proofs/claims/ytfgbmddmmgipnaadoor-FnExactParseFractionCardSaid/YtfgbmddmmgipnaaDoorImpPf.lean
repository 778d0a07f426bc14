/- impl.ParseFraction: contract. -/
import Derived.Test.YtfgbmddmmgipnaaDoorImpPm
import Derived.Test.YtfgbmddmmgipnaaDoorReadF
namespace Go.Proofs.YtfgbmddmmgipnaaDoor
open Go.ChangeShapes Go.WideShapes Go.ChangeAt Go.RowKit

theorem wide2 {a b : Int} (h : isF a b = true) : Wide [a, b] := by
  intro x hx
  have := ten2 h x hx
  unfold I64
  omega
theorem at2 (a : Addr) (cap : Nat) (w : World) : (Instr.arrayAt 29 (.slice (some a) 2 cap)).run Tryd.prog w = .ok (.pointer (some a)) w := by
  exact run_arrayAt w 29 2 2 (some a) 2 cap Tryd.underlying29 (Nat.le_refl _)
set_option maxRecDepth 100000 in
set_option maxHeartbeats 4000000 in
theorem implPf_any (s : ByteArray) (hm : s.size ≤ 1048576) (w : World) (hL : Lb w) :
    Calls Tryd.prog 10 #[.string s] w fun e w' => ∃ (p q : Int) (ok : Bool), e = .returned (.tuple #[(.agg #[.int .i64 p, .int .i64 q]), (.int .i64 (if ok = true then 0 else 6))]) ∧ Hid (ReadF (splitL 47 (toL s)) p q ok) ∧ Below w.heap.size w w' := by
  have HN := Lib.hid (fun w h => splitNumbers_any s hm 47 2 (by omega) (by omega) w h)
  have HLB := Lib.hid hL
  generalize splitL 47 (toL s) = ps at *
  clear hL
  go_enter Tryd.func10, Tryd.ntmps10
  go_wp2_with fail
  refine (HN.out _ (HLB.out.below (by repeat (first | with_reducible exact own_refl _ | with_reducible assumption | with_reducible apply own_alloc | with_reducible apply own_drewN | with_reducible apply own_drew | ((with_reducible refine own_setCell ?_ ?_ _); rotate_left; focus (first | (simp; done) | (simp; omega))) | (with_reducible (refine own_trans ?_ (by assumption))))))).mono ?_
  rintro e w1 ⟨⟨v, rfl, xs, hl, hS, HX⟩ | ⟨rfl, HX⟩, hb1⟩
  · obtain ⟨a, b, rfl⟩ : ∃ a b, xs = [a, b] := by
      match xs, hl with
      | [a, b], _ => exact ⟨a, b, rfl⟩
    obtain ⟨_, ad, cap, rfl, hc⟩ := hS
    obtain ⟨g, off, rfl, hg, _, hcc⟩ := hc (by simp)
    have c0 : w1.cell? ⟨g, off, none⟩ = some (.int .i64 a) := (hcc 0 (by simp)).1
    have c1 : w1.cell? ⟨g, off + 1, none⟩ = some (.int .i64 b) := (hcc 1 (by simp)).1
    have R0 : Box w1 w.heap.size [.int .i64 0, .int .i64 0] := Box.below (Box.new _ _ _) hb1
    have T1 : Below w.heap.size w w1 := by repeat (first | with_reducible exact own_refl _ | with_reducible assumption | with_reducible apply own_alloc | with_reducible apply own_drewN | with_reducible apply own_drew | ((with_reducible refine own_setCell ?_ ?_ _); rotate_left; focus (first | (simp; done) | (simp; omega))) | (with_reducible (refine own_trans ?_ (by assumption))))
    obtain ⟨_, _, _, _, _⟩ := R0.two
    clear hc hcc hl
    simp only [List.length_cons, List.length_nil]
    have hat := at2 ⟨g, off, none⟩ cap
    rcases hM : isF a b with _ | _
    · have HI := Lib.hid (fun w => implIsF_isC false a b hM w)
      have HM := Lib.hid hM
      clear hM
      go_wp2_with fail
      refine (HI.out _).mono ?_
      rintro e w2 ⟨rfl, hb2⟩
      have R0 := R0.below hb2
      have T2 := own_trans T1 hb2
      obtain ⟨_, _, _, _, _⟩ := R0.two
      go_wp2
      obtain ⟨d0, d1⟩ := R0.reads2R (.int .i64 0) (.int .i64 0)
      exact bodyPost_ret (v := .tuple #[(.agg #[.int .i64 0, .int .i64 0]), (.int .i64 6)]) (by simp [results, Tryd.results10, go_sem, d0, d1]) rfl ⟨0, 0, false, rfl, Lib.hid (.inr ⟨rfl, rfl, rfl, fun a' b' hM' he => by
        have := itoa_map_injW HX.out.2 (wide2 hM') (HX.out.1.symm.trans he)
        simp only [List.cons.injEq, and_true] at this
        obtain ⟨rfl, rfl⟩ := this
        rw [HM.out] at hM'; cases hM'⟩), by repeat (first | with_reducible exact own_refl _ | with_reducible assumption | with_reducible apply own_alloc | with_reducible apply own_drewN | with_reducible apply own_drew | ((with_reducible refine own_setCell ?_ ?_ _); rotate_left; focus (first | (simp; done) | (simp; omega))) | (with_reducible (refine own_trans ?_ (by assumption))))⟩
    · have HI := Lib.hid (fun w => implIsF_isC true a b hM w)
      have HM := Lib.hid hM
      clear hM
      go_wp2_with fail
      refine (HI.out _).mono ?_
      rintro e w2 ⟨rfl, hb2⟩
      have R0 := R0.below hb2
      have T2 := own_trans T1 hb2
      obtain ⟨_, _, _, _, _⟩ := R0.two
      have hg1 : g < w1.heap.size := by omega
      have e0 : w2.cell? ⟨g, off, none⟩ = some (.int .i64 a) := (hb2.cell (p := ⟨g, off, none⟩) hg1).trans c0
      have e1 : w2.cell? ⟨g, off + 1, none⟩ = some (.int .i64 b) := (hb2.cell (p := ⟨g, off + 1, none⟩) hg1).trans c1
      go_wp2
      obtain ⟨d0, d1⟩ := R0.reads2R (.int .i64 a) (.int .i64 b)
      exact bodyPost_ret (v := .tuple #[(.agg #[.int .i64 a, .int .i64 b]), (.int .i64 0)]) (by simp [results, Tryd.results10, go_sem, d0, d1]) rfl ⟨a, b, true, rfl, Lib.hid (.inl ⟨rfl, HX.out.1, HM.out⟩), by repeat (first | with_reducible exact own_refl _ | with_reducible assumption | with_reducible apply own_alloc | with_reducible apply own_drewN | with_reducible apply own_drew | ((with_reducible refine own_setCell ?_ ?_ _); rotate_left; focus (first | (simp; done) | (simp; omega))) | (with_reducible (refine own_trans ?_ (by assumption))))⟩
  · have R0 : Box w1 w.heap.size [.int .i64 0, .int .i64 0] := Box.below (Box.new _ _ _) hb1
    have T1 : Below w.heap.size w w1 := by repeat (first | with_reducible exact own_refl _ | with_reducible assumption | with_reducible apply own_alloc | with_reducible apply own_drewN | with_reducible apply own_drew | ((with_reducible refine own_setCell ?_ ?_ _); rotate_left; focus (first | (simp; done) | (simp; omega))) | (with_reducible (refine own_trans ?_ (by assumption))))
    obtain ⟨_, _, _, _, _⟩ := R0.two
    go_wp2
    obtain ⟨d0, d1⟩ := R0.reads2R (.int .i64 0) (.int .i64 0)
    exact bodyPost_ret (v := .tuple #[(.agg #[.int .i64 0, .int .i64 0]), (.int .i64 6)]) (by simp [results, Tryd.results10, go_sem, d0, d1]) rfl ⟨0, 0, false, rfl, Lib.hid (.inr ⟨rfl, rfl, rfl, fun a b hM he => HX.out _ (wide2 hM) rfl he⟩), by repeat (first | with_reducible exact own_refl _ | with_reducible assumption | with_reducible apply own_alloc | with_reducible apply own_drewN | with_reducible apply own_drew | ((with_reducible refine own_setCell ?_ ?_ _); rotate_left; focus (first | (simp; done) | (simp; omega))) | (with_reducible (refine own_trans ?_ (by assumption))))⟩
end Go.Proofs.YtfgbmddmmgipnaaDoor
