/- spec.l01Read: contract. -/
import Derived.Test.YtfgbmddmmgipnaaDoorNums
import Derived.Test.YtfgbmddmmgipnaaDoorTxt
namespace Go.Proofs.YtfgbmddmmgipnaaDoor
open Go.ChangeShapes Go.WideShapes Go.ChangeAt Go.RowKit

theorem itoa_inj {m n : Int} (hm : m.natAbs < 10000000000) (hn : n.natAbs < 10000000000) (h : Lib.itoa m = Lib.itoa n) : m = n := by
  have h1 := itoa_head m
  have h2 := itoa_head n
  rw [h] at h1
  by_cases hs : n < 0
  · have hs' : m < 0 := h1.1 (h2.2 hs)
    rw [Lib.itoa, Lib.itoa, if_pos hs, if_pos hs'] at h
    injection h with _ h
    have e1 := numB_dec m.natAbs hm
    have e2 := numB_dec n.natAbs hn
    rw [h, e2] at e1
    omega
  · have hs' : ¬ m < 0 := fun hs' => hs (h2.1 (h1.2 hs'))
    rw [Lib.itoa, Lib.itoa, if_neg hs, if_neg hs'] at h
    have e1 := numB_dec m.toNat (by omega)
    have e2 := numB_dec n.toNat (by omega)
    rw [h, e2] at e1
    omega
theorem itoa_map_inj : ∀ {xs ys : List Int}, Ten xs → Ten ys → xs.map Lib.itoa = ys.map Lib.itoa → xs = ys
  | [], [], _, _, _ => rfl
  | [], _ :: _, _, _, h => by simp at h
  | _ :: _, [], _, _, h => by simp at h
  | x :: xs, y :: ys, hx, hy, h => by
    simp only [List.map_cons, List.cons.injEq] at h
    rw [itoa_inj (hx x (by simp)) (hy y (by simp)) h.1, itoa_map_inj (fun z hz => hx z (by simp [hz])) (fun z hz => hy z (by simp [hz])) h.2]
theorem ten4 {a b c d : Int} (h : isM a b c d = true) : Ten [a, b, c, d] := by
  obtain ⟨ha, hb, hc, hd, _⟩ := isM_ent h
  unfold Ent at ha hb hc hd
  intro x hx
  simp only [List.mem_cons, List.not_mem_nil, or_false] at hx
  rcases hx with rfl | rfl | rfl | rfl <;> omega
theorem Box.reads4R {w : World} {g : Nat} {x0 x1 x2 x3 : Value} (h : Box w g [x0, x1, x2, x3]) (y0 y1 y2 y3 : Value) :
    (w.setCell ⟨g, 0, none⟩ y0).cell? ⟨g, 0, none⟩ = some y0 ∧ ((w.setCell ⟨g, 0, none⟩ y0).setCell ⟨g, 1, none⟩ y1).cell? ⟨g, 1, none⟩ = some y1 ∧
      (((w.setCell ⟨g, 0, none⟩ y0).setCell ⟨g, 1, none⟩ y1).setCell ⟨g, 2, none⟩ y2).cell? ⟨g, 2, none⟩ = some y2 ∧ ((((w.setCell ⟨g, 0, none⟩ y0).setCell ⟨g, 1, none⟩ y1).setCell ⟨g, 2, none⟩ y2).setCell ⟨g, 3, none⟩ y3).cell? ⟨g, 3, none⟩ = some y3 :=
  ⟨((h.set 0 (by simp) y0).four).2.1, (((h.set 0 (by simp) y0).set 1 (by simp) y1).four).2.2.1, ((((h.set 0 (by simp) y0).set 1 (by simp) y1).set 2 (by simp) y2).four).2.2.2.1, (h.put4 y0 y1 y2 y3).four.2.2.2.2.1⟩
/-- The text is that of a matrix. -/
def ReadM (ps : List (List UInt8)) (m : Mat) (ok : Bool) : Prop :=
  (ok = true ∧ ps = [m.a, m.b, m.c, m.d].map Lib.itoa ∧ isM m.a m.b m.c m.d = true) ∨ (ok = false ∧ m = Mat.zero ∧ ∀ a b c d, isM a b c d = true → ps ≠ [a, b, c, d].map Lib.itoa)
set_option maxRecDepth 100000 in
set_option maxHeartbeats 4000000 in
theorem read_any (s : ByteArray) (hm : s.size ≤ 1048576) (w : World) :
    Calls Tryd.prog 15 #[.string s] w fun e w' => ∃ (m : Mat) (ok : Bool), e = .returned (.tuple #[(.agg #[.int .i64 m.a, .int .i64 m.b, .int .i64 m.c, .int .i64 m.d]), .bool ok]) ∧ Hid (ReadM (splitL 44 (toL s)) m ok) ∧ Below w.heap.size w w' := by
  have HN := Lib.hid (nums_any s hm 44 44 rfl)
  generalize splitL 44 (toL s) = ps at *
  go_enter Tryd.func15, Tryd.ntmps15
  go_wp2_with fail
  refine (HN.out _).mono ?_
  rintro e w1 ⟨⟨v, rfl, xs, hS, HX⟩ | ⟨rfl, HX⟩, hb1⟩
  · have R1 : Box w1 w.heap.size [.int .i64 0, .int .i64 0, .int .i64 0, .int .i64 0] := Box.below (Box.new _ _ _) hb1
    have T1 : Below w.heap.size w w1 := by repeat (first | with_reducible exact own_refl _ | with_reducible assumption | with_reducible apply own_alloc | with_reducible apply own_drewN | with_reducible apply own_drew | ((with_reducible refine own_setCell ?_ ?_ _); rotate_left; focus (first | (simp; done) | (simp; omega))) | (with_reducible (refine own_trans ?_ (by assumption))))
    obtain ⟨_, _, _, _, _, _, _, _, _⟩ := R1.four
    by_cases h4 : xs.length = 4
    · obtain ⟨a, b, c, d, rfl⟩ : ∃ a b c d, xs = [a, b, c, d] := by
        match xs, h4 with
        | [a, b, c, d], _ => exact ⟨a, b, c, d, rfl⟩
      obtain ⟨_, ad, cap, rfl, hc⟩ := hS
      obtain ⟨g, off, rfl, hg, _, hcc⟩ := hc (by simp)
      have c0 : w1.cell? ⟨g, off, none⟩ = some (.int .i64 a) := (hcc 0 (by simp)).1
      have c1 : w1.cell? ⟨g, off + 1, none⟩ = some (.int .i64 b) := (hcc 1 (by simp)).1
      have c2 : w1.cell? ⟨g, off + 2, none⟩ = some (.int .i64 c) := (hcc 2 (by simp)).1
      have c3 : w1.cell? ⟨g, off + 3, none⟩ = some (.int .i64 d) := (hcc 3 (by simp)).1
      have hgn : ¬ g = w1.heap.size := by omega
      have hgn2 : ¬ w1.heap.size = g := by omega
      clear hc hcc h4
      simp only [List.length_cons, List.length_nil]
      rcases hM : isM a b c d with _ | _
      · have HI := Lib.hid (fun w => l01Is_is false a b c d w hM)
        have HM := Lib.hid hM
        clear hM
        go_wp2_with fail
        go_region_held3 (fun w' => w'.cell? ⟨g, off, none⟩ = some (.int .i64 a) ∧ w'.cell? ⟨g, off + 1, none⟩ = some (.int .i64 b) ∧ w'.cell? ⟨g, off + 2, none⟩ = some (.int .i64 c) ∧ w'.cell? ⟨g, off + 3, none⟩ = some (.int .i64 d)) (go_keep) (fail)
        have BO : Box (w1.drew.alloc (.cells #[.int .i64 a, .int .i64 b, .int .i64 c, .int .i64 d] 23)) w1.heap.size [.int .i64 a, .int .i64 b, .int .i64 c, .int .i64 d] := Box.new _ _ _
        obtain ⟨_, _, _, _, _, _, _, _, _⟩ := BO.four
        have R1 := (R1.drew).alloc (.cells #[.int .i64 a, .int .i64 b, .int .i64 c, .int .i64 d] 23)
        obtain ⟨_, _, _, _, _, _, _, _, _⟩ := R1.four
        go_wp2_with fail
        refine (HI.out _).mono ?_
        rintro e w2 ⟨rfl, hb2⟩
        have R1 := R1.below hb2
        have T2 : Below w.heap.size w w2 := by repeat (first | with_reducible exact own_refl _ | with_reducible assumption | with_reducible apply own_alloc | with_reducible apply own_drewN | with_reducible apply own_drew | ((with_reducible refine own_setCell ?_ ?_ _); rotate_left; focus (first | (simp; done) | (simp; omega))) | (with_reducible (refine own_trans ?_ (by assumption))))
        have BO := BO.below hb2
        obtain ⟨_, _, _, _, _, _, _, _, _⟩ := BO.four
        obtain ⟨_, _, _, _, _, _, _, _, _⟩ := R1.four
        go_wp2
        obtain ⟨d0, d1, d2, d3⟩ := R1.reads4R (.int .i64 0) (.int .i64 0) (.int .i64 0) (.int .i64 0)
        exact bodyPost_ret (v := .tuple #[(.agg #[.int .i64 0, .int .i64 0, .int .i64 0, .int .i64 0]), .bool false]) (by simp [results, Tryd.results15, go_sem, d0, d1, d2, d3]) rfl ⟨Mat.zero, false, rfl, Lib.hid (.inr ⟨rfl, rfl, fun a' b' c' d' hM' he => by
          have := itoa_map_inj HX.out.2 (ten4 hM') (HX.out.1.symm.trans he)
          simp only [List.cons.injEq, and_true] at this
          obtain ⟨rfl, rfl, rfl, rfl⟩ := this
          rw [HM.out] at hM'; cases hM'⟩), by repeat (first | with_reducible exact own_refl _ | with_reducible assumption | with_reducible apply own_alloc | with_reducible apply own_drewN | with_reducible apply own_drew | ((with_reducible refine own_setCell ?_ ?_ _); rotate_left; focus (first | (simp; done) | (simp; omega))) | (with_reducible (refine own_trans ?_ (by assumption))))⟩
      · have HI := Lib.hid (fun w => l01Is_is true a b c d w hM)
        have HM := Lib.hid hM
        clear hM
        go_wp2_with fail
        go_region_held3 (fun w' => w'.cell? ⟨g, off, none⟩ = some (.int .i64 a) ∧ w'.cell? ⟨g, off + 1, none⟩ = some (.int .i64 b) ∧ w'.cell? ⟨g, off + 2, none⟩ = some (.int .i64 c) ∧ w'.cell? ⟨g, off + 3, none⟩ = some (.int .i64 d)) (go_keep) (fail)
        have BO : Box (w1.drew.alloc (.cells #[.int .i64 a, .int .i64 b, .int .i64 c, .int .i64 d] 23)) w1.heap.size [.int .i64 a, .int .i64 b, .int .i64 c, .int .i64 d] := Box.new _ _ _
        obtain ⟨_, _, _, _, _, _, _, _, _⟩ := BO.four
        have R1 := (R1.drew).alloc (.cells #[.int .i64 a, .int .i64 b, .int .i64 c, .int .i64 d] 23)
        obtain ⟨_, _, _, _, _, _, _, _, _⟩ := R1.four
        go_wp2_with fail
        refine (HI.out _).mono ?_
        rintro e w2 ⟨rfl, hb2⟩
        have R1 := R1.below hb2
        have T2 : Below w.heap.size w w2 := by repeat (first | with_reducible exact own_refl _ | with_reducible assumption | with_reducible apply own_alloc | with_reducible apply own_drewN | with_reducible apply own_drew | ((with_reducible refine own_setCell ?_ ?_ _); rotate_left; focus (first | (simp; done) | (simp; omega))) | (with_reducible (refine own_trans ?_ (by assumption))))
        have BO := BO.below hb2
        obtain ⟨_, _, _, _, _, _, _, _, _⟩ := BO.four
        obtain ⟨_, _, _, _, _, _, _, _, _⟩ := R1.four
        go_wp2
        obtain ⟨d0, d1, d2, d3⟩ := R1.reads4R (.int .i64 a) (.int .i64 b) (.int .i64 c) (.int .i64 d)
        exact bodyPost_ret (v := .tuple #[(.agg #[.int .i64 a, .int .i64 b, .int .i64 c, .int .i64 d]), .bool true]) (by simp [results, Tryd.results15, go_sem, d0, d1, d2, d3]) rfl ⟨⟨a, b, c, d⟩, true, rfl, Lib.hid (.inl ⟨rfl, HX.out.1, HM.out⟩), by repeat (first | with_reducible exact own_refl _ | with_reducible assumption | with_reducible apply own_alloc | with_reducible apply own_drewN | with_reducible apply own_drew | ((with_reducible refine own_setCell ?_ ?_ _); rotate_left; focus (first | (simp; done) | (simp; omega))) | (with_reducible (refine own_trans ?_ (by assumption))))⟩
    · obtain ⟨_, ad, cap, rfl, _⟩ := hS
      obtain ⟨n, hn⟩ : ∃ n, xs.length = n := ⟨_, rfl⟩
      have HNN := Lib.hid hn
      rw [hn] at h4 ⊢
      clear hn
      go_wp2
      obtain ⟨d0, d1, d2, d3⟩ := R1.reads4R (.int .i64 0) (.int .i64 0) (.int .i64 0) (.int .i64 0)
      exact bodyPost_ret (v := .tuple #[(.agg #[.int .i64 0, .int .i64 0, .int .i64 0, .int .i64 0]), .bool false]) (by simp [results, Tryd.results15, go_sem, d0, d1, d2, d3]) rfl ⟨Mat.zero, false, rfl, Lib.hid (.inr ⟨rfl, rfl, fun a b c d _ he => h4 (by have := congrArg List.length he; rw [HX.out.1] at this; simp at this; rw [HNN.out] at this; omega)⟩), by repeat (first | with_reducible exact own_refl _ | with_reducible assumption | with_reducible apply own_alloc | with_reducible apply own_drewN | with_reducible apply own_drew | ((with_reducible refine own_setCell ?_ ?_ _); rotate_left; focus (first | (simp; done) | (simp; omega))) | (with_reducible (refine own_trans ?_ (by assumption))))⟩
  · have R1 : Box w1 w.heap.size [.int .i64 0, .int .i64 0, .int .i64 0, .int .i64 0] := Box.below (Box.new _ _ _) hb1
    have T1 : Below w.heap.size w w1 := by repeat (first | with_reducible exact own_refl _ | with_reducible assumption | with_reducible apply own_alloc | with_reducible apply own_drewN | with_reducible apply own_drew | ((with_reducible refine own_setCell ?_ ?_ _); rotate_left; focus (first | (simp; done) | (simp; omega))) | (with_reducible (refine own_trans ?_ (by assumption))))
    obtain ⟨_, _, _, _, _, _, _, _, _⟩ := R1.four
    go_wp2
    obtain ⟨d0, d1, d2, d3⟩ := R1.reads4R (.int .i64 0) (.int .i64 0) (.int .i64 0) (.int .i64 0)
    exact bodyPost_ret (v := .tuple #[(.agg #[.int .i64 0, .int .i64 0, .int .i64 0, .int .i64 0]), .bool false]) (by simp [results, Tryd.results15, go_sem, d0, d1, d2, d3]) rfl ⟨Mat.zero, false, rfl, Lib.hid (.inr ⟨rfl, rfl, fun a b c d hM he => HX.out _ (ten4 hM) he⟩), by repeat (first | with_reducible exact own_refl _ | with_reducible assumption | with_reducible apply own_alloc | with_reducible apply own_drewN | with_reducible apply own_drew | ((with_reducible refine own_setCell ?_ ?_ _); rotate_left; focus (first | (simp; done) | (simp; omega))) | (with_reducible (refine own_trans ?_ (by assumption))))⟩
end Go.Proofs.YtfgbmddmmgipnaaDoor
