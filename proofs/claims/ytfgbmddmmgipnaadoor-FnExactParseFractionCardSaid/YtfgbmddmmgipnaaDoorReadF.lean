/- spec.l01ReadFraction: contract. -/
import Derived.Test.YtfgbmddmmgipnaaDoorRead
import Derived.Test.YtfgbmddmmgipnaaDoorCmp
namespace Go.Proofs.YtfgbmddmmgipnaaDoor
open Go.ChangeShapes Go.WideShapes Go.ChangeAt Go.RowKit

theorem ten2 {a b : Int} (h : isF a b = true) : Ten [a, b] := by
  obtain ⟨ha, hb, _⟩ := isF_entC h
  unfold Ent at ha hb
  intro x hx
  simp only [List.mem_cons, List.not_mem_nil, or_false] at hx
  rcases hx with rfl | rfl <;> omega
theorem Box.reads2R {w : World} {g : Nat} {x0 x1 : Value} (h : Box w g [x0, x1]) (y0 y1 : Value) :
    (w.setCell ⟨g, 0, none⟩ y0).cell? ⟨g, 0, none⟩ = some y0 ∧ ((w.setCell ⟨g, 0, none⟩ y0).setCell ⟨g, 1, none⟩ y1).cell? ⟨g, 1, none⟩ = some y1 :=
  ⟨((h.set 0 (by simp) y0).two).2.1, (h.put2 y0 y1).two.2.2.1⟩
/-- The text is that of a fraction. -/
def ReadF (ps : List (List UInt8)) (p q : Int) (ok : Bool) : Prop :=
  (ok = true ∧ ps = [p, q].map Lib.itoa ∧ isF p q = true) ∨ (ok = false ∧ p = 0 ∧ q = 0 ∧ ∀ a b, isF a b = true → ps ≠ [a, b].map Lib.itoa)
set_option maxRecDepth 100000 in
set_option maxHeartbeats 4000000 in
theorem readF_any (s : ByteArray) (hm : s.size ≤ 1048576) (w : World) :
    Calls Tryd.prog 18 #[.string s] w fun e w' => ∃ (p q : Int) (ok : Bool), e = .returned (.tuple #[(.agg #[.int .i64 p, .int .i64 q]), .bool ok]) ∧ Hid (ReadF (splitL 47 (toL s)) p q ok) ∧ Below w.heap.size w w' := by
  have HN := Lib.hid (nums_any s hm 47 47 rfl)
  generalize splitL 47 (toL s) = ps at *
  go_enter Tryd.func18, Tryd.ntmps18
  go_wp2_with fail
  refine (HN.out _).mono ?_
  rintro e w1 ⟨⟨v, rfl, xs, hS, HX⟩ | ⟨rfl, HX⟩, hb1⟩
  · have R1 : Box w1 w.heap.size [.int .i64 0, .int .i64 0] := Box.below (Box.new _ _ _) hb1
    have T1 : Below w.heap.size w w1 := by repeat (first | with_reducible exact own_refl _ | with_reducible assumption | with_reducible apply own_alloc | with_reducible apply own_drewN | with_reducible apply own_drew | ((with_reducible refine own_setCell ?_ ?_ _); rotate_left; focus (first | (simp; done) | (simp; omega))) | (with_reducible (refine own_trans ?_ (by assumption))))
    obtain ⟨_, _, _, _, _⟩ := R1.two
    by_cases h4 : xs.length = 2
    · obtain ⟨a, b, rfl⟩ : ∃ a b, xs = [a, b] := by
        match xs, h4 with
        | [a, b], _ => exact ⟨a, b, rfl⟩
      obtain ⟨_, ad, cap, rfl, hc⟩ := hS
      obtain ⟨g, off, rfl, hg, _, hcc⟩ := hc (by simp)
      have c0 : w1.cell? ⟨g, off, none⟩ = some (.int .i64 a) := (hcc 0 (by simp)).1
      have c1 : w1.cell? ⟨g, off + 1, none⟩ = some (.int .i64 b) := (hcc 1 (by simp)).1
      have hgn : ¬ g = w1.heap.size := by omega
      have hgn2 : ¬ w1.heap.size = g := by omega
      clear hc hcc h4
      simp only [List.length_cons, List.length_nil]
      rcases hM : isF a b with _ | _
      · have HI := Lib.hid (fun w => l01Fraction_is false a b hM w)
        have HM := Lib.hid hM
        clear hM
        go_wp2_with fail
        go_region_held3 (fun w' => w'.cell? ⟨g, off, none⟩ = some (.int .i64 a) ∧ w'.cell? ⟨g, off + 1, none⟩ = some (.int .i64 b)) (go_keep) (fail)
        have BO : Box (w1.drew.alloc (.cells #[.int .i64 a, .int .i64 b] 29)) w1.heap.size [.int .i64 a, .int .i64 b] := Box.new _ _ _
        obtain ⟨_, _, _, _, _⟩ := BO.two
        have R1 := (R1.drew).alloc (.cells #[.int .i64 a, .int .i64 b] 29)
        obtain ⟨_, _, _, _, _⟩ := R1.two
        go_wp2_with fail
        refine (HI.out _).mono ?_
        rintro e w2 ⟨rfl, hb2⟩
        have R1 := R1.below hb2
        have T2 : Below w.heap.size w w2 := by repeat (first | with_reducible exact own_refl _ | with_reducible assumption | with_reducible apply own_alloc | with_reducible apply own_drewN | with_reducible apply own_drew | ((with_reducible refine own_setCell ?_ ?_ _); rotate_left; focus (first | (simp; done) | (simp; omega))) | (with_reducible (refine own_trans ?_ (by assumption))))
        have BO := BO.below hb2
        obtain ⟨_, _, _, _, _⟩ := BO.two
        obtain ⟨_, _, _, _, _⟩ := R1.two
        go_wp2
        obtain ⟨d0, d1⟩ := R1.reads2R (.int .i64 0) (.int .i64 0)
        exact bodyPost_ret (v := .tuple #[(.agg #[.int .i64 0, .int .i64 0]), .bool false]) (by simp [results, Tryd.results18, go_sem, d0, d1]) rfl ⟨0, 0, false, rfl, Lib.hid (.inr ⟨rfl, rfl, rfl, fun a' b' hM' he => by
          have := itoa_map_inj HX.out.2 (ten2 hM') (HX.out.1.symm.trans he)
          simp only [List.cons.injEq, and_true] at this
          obtain ⟨rfl, rfl⟩ := this
          rw [HM.out] at hM'; cases hM'⟩), by repeat (first | with_reducible exact own_refl _ | with_reducible assumption | with_reducible apply own_alloc | with_reducible apply own_drewN | with_reducible apply own_drew | ((with_reducible refine own_setCell ?_ ?_ _); rotate_left; focus (first | (simp; done) | (simp; omega))) | (with_reducible (refine own_trans ?_ (by assumption))))⟩
      · have HI := Lib.hid (fun w => l01Fraction_is true a b hM w)
        have HM := Lib.hid hM
        clear hM
        go_wp2_with fail
        go_region_held3 (fun w' => w'.cell? ⟨g, off, none⟩ = some (.int .i64 a) ∧ w'.cell? ⟨g, off + 1, none⟩ = some (.int .i64 b)) (go_keep) (fail)
        have BO : Box (w1.drew.alloc (.cells #[.int .i64 a, .int .i64 b] 29)) w1.heap.size [.int .i64 a, .int .i64 b] := Box.new _ _ _
        obtain ⟨_, _, _, _, _⟩ := BO.two
        have R1 := (R1.drew).alloc (.cells #[.int .i64 a, .int .i64 b] 29)
        obtain ⟨_, _, _, _, _⟩ := R1.two
        go_wp2_with fail
        refine (HI.out _).mono ?_
        rintro e w2 ⟨rfl, hb2⟩
        have R1 := R1.below hb2
        have T2 : Below w.heap.size w w2 := by repeat (first | with_reducible exact own_refl _ | with_reducible assumption | with_reducible apply own_alloc | with_reducible apply own_drewN | with_reducible apply own_drew | ((with_reducible refine own_setCell ?_ ?_ _); rotate_left; focus (first | (simp; done) | (simp; omega))) | (with_reducible (refine own_trans ?_ (by assumption))))
        have BO := BO.below hb2
        obtain ⟨_, _, _, _, _⟩ := BO.two
        obtain ⟨_, _, _, _, _⟩ := R1.two
        go_wp2
        obtain ⟨d0, d1⟩ := R1.reads2R (.int .i64 a) (.int .i64 b)
        exact bodyPost_ret (v := .tuple #[(.agg #[.int .i64 a, .int .i64 b]), .bool true]) (by simp [results, Tryd.results18, go_sem, d0, d1]) rfl ⟨a, b, true, rfl, Lib.hid (.inl ⟨rfl, HX.out.1, HM.out⟩), by repeat (first | with_reducible exact own_refl _ | with_reducible assumption | with_reducible apply own_alloc | with_reducible apply own_drewN | with_reducible apply own_drew | ((with_reducible refine own_setCell ?_ ?_ _); rotate_left; focus (first | (simp; done) | (simp; omega))) | (with_reducible (refine own_trans ?_ (by assumption))))⟩
    · obtain ⟨_, ad, cap, rfl, _⟩ := hS
      obtain ⟨n, hn⟩ : ∃ n, xs.length = n := ⟨_, rfl⟩
      have HNN := Lib.hid hn
      rw [hn] at h4 ⊢
      clear hn
      go_wp2
      obtain ⟨d0, d1⟩ := R1.reads2R (.int .i64 0) (.int .i64 0)
      exact bodyPost_ret (v := .tuple #[(.agg #[.int .i64 0, .int .i64 0]), .bool false]) (by simp [results, Tryd.results18, go_sem, d0, d1]) rfl ⟨0, 0, false, rfl, Lib.hid (.inr ⟨rfl, rfl, rfl, fun a b _ he => h4 (by have := congrArg List.length he; rw [HX.out.1] at this; simp at this; rw [HNN.out] at this; omega)⟩), by repeat (first | with_reducible exact own_refl _ | with_reducible assumption | with_reducible apply own_alloc | with_reducible apply own_drewN | with_reducible apply own_drew | ((with_reducible refine own_setCell ?_ ?_ _); rotate_left; focus (first | (simp; done) | (simp; omega))) | (with_reducible (refine own_trans ?_ (by assumption))))⟩
  · have R1 : Box w1 w.heap.size [.int .i64 0, .int .i64 0] := Box.below (Box.new _ _ _) hb1
    have T1 : Below w.heap.size w w1 := by repeat (first | with_reducible exact own_refl _ | with_reducible assumption | with_reducible apply own_alloc | with_reducible apply own_drewN | with_reducible apply own_drew | ((with_reducible refine own_setCell ?_ ?_ _); rotate_left; focus (first | (simp; done) | (simp; omega))) | (with_reducible (refine own_trans ?_ (by assumption))))
    obtain ⟨_, _, _, _, _⟩ := R1.two
    go_wp2
    obtain ⟨d0, d1⟩ := R1.reads2R (.int .i64 0) (.int .i64 0)
    exact bodyPost_ret (v := .tuple #[(.agg #[.int .i64 0, .int .i64 0]), .bool false]) (by simp [results, Tryd.results18, go_sem, d0, d1]) rfl ⟨0, 0, false, rfl, Lib.hid (.inr ⟨rfl, rfl, rfl, fun a b hM he => HX.out _ (ten2 hM) he⟩), by repeat (first | with_reducible exact own_refl _ | with_reducible assumption | with_reducible apply own_alloc | with_reducible apply own_drewN | with_reducible apply own_drew | ((with_reducible refine own_setCell ?_ ?_ _); rotate_left; focus (first | (simp; done) | (simp; omega))) | (with_reducible (refine own_trans ?_ (by assumption))))⟩
end Go.Proofs.YtfgbmddmmgipnaaDoor
