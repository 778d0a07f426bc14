/- impl.ParseMatrix: contract. -/
import Derived.Test.YtfgbmddmmgipnaaDoorSpq
import Derived.Laws.Cover3
namespace Go.Proofs.YtfgbmddmmgipnaaDoor
open Go.ChangeShapes Go.WideShapes Go.ChangeAt Go.RowKit

theorem itoa_injW {m n : Int} (hm : I64 m) (hn : I64 n) (h : Lib.itoa m = Lib.itoa n) : m = n := by
  unfold I64 at hm hn
  have e1 := parse_itoa m (by omega) (by omega)
  rw [h, parse_itoa n (by omega) (by omega)] at e1
  injection e1 with e1
  exact e1.symm
theorem itoa_map_injW : ∀ {xs ys : List Int}, Wide xs → Wide ys → xs.map Lib.itoa = ys.map Lib.itoa → xs = ys
  | [], [], _, _, _ => rfl
  | [], _ :: _, _, _, h => by simp at h
  | _ :: _, [], _, _, h => by simp at h
  | x :: xs, y :: ys, hx, hy, h => by
    simp only [List.map_cons, List.cons.injEq] at h
    rw [itoa_injW (hx x (by simp)) (hy y (by simp)) h.1, itoa_map_injW (fun z hz => hx z (by simp [hz])) (fun z hz => hy z (by simp [hz])) h.2]
theorem wide4 {a b c d : Int} (h : isM a b c d = true) : Wide [a, b, c, d] := by
  intro x hx
  have := ten4 h x hx
  unfold I64
  omega
theorem at4 (a : Addr) (cap : Nat) (w : World) : (Instr.arrayAt 23 (.slice (some a) 4 cap)).run Tryd.prog w = .ok (.pointer (some a)) w := by
  exact run_arrayAt w 23 2 4 (some a) 4 cap Tryd.underlying23 (Nat.le_refl _)
set_option maxRecDepth 100000 in
set_option maxHeartbeats 4000000 in
theorem implPm_any (s : ByteArray) (hm : s.size ≤ 1048576) (w : World) (hL : Lb w) :
    Calls Tryd.prog 7 #[.string s] w fun e w' => ∃ (m : Mat) (ok : Bool), e = .returned (.tuple #[(.agg #[.int .i64 m.a, .int .i64 m.b, .int .i64 m.c, .int .i64 m.d]), (.int .i64 (if ok = true then 0 else 6))]) ∧ Hid (ReadM (splitL 44 (toL s)) m ok) ∧ Below w.heap.size w w' := by
  have HN := Lib.hid (fun w h => splitNumbers_any s hm 44 4 (by omega) (by omega) w h)
  have HLB := Lib.hid hL
  generalize splitL 44 (toL s) = ps at *
  clear hL
  go_enter Tryd.func7, Tryd.ntmps7
  go_wp2_with fail
  refine (HN.out _ (HLB.out.below (by repeat (first | with_reducible exact own_refl _ | with_reducible assumption | with_reducible apply own_alloc | with_reducible apply own_drewN | with_reducible apply own_drew | ((with_reducible refine own_setCell ?_ ?_ _); rotate_left; focus (first | (simp; done) | (simp; omega))) | (with_reducible (refine own_trans ?_ (by assumption))))))).mono ?_
  rintro e w1 ⟨⟨v, rfl, xs, hl, hS, HX⟩ | ⟨rfl, HX⟩, hb1⟩
  · obtain ⟨a, b, c, d, rfl⟩ : ∃ a b c d, xs = [a, b, c, d] := by
      match xs, hl with
      | [a, b, c, d], _ => exact ⟨a, b, c, d, rfl⟩
    obtain ⟨_, ad, cap, rfl, hc⟩ := hS
    obtain ⟨g, off, rfl, hg, _, hcc⟩ := hc (by simp)
    have c0 : w1.cell? ⟨g, off, none⟩ = some (.int .i64 a) := (hcc 0 (by simp)).1
    have c1 : w1.cell? ⟨g, off + 1, none⟩ = some (.int .i64 b) := (hcc 1 (by simp)).1
    have c2 : w1.cell? ⟨g, off + 2, none⟩ = some (.int .i64 c) := (hcc 2 (by simp)).1
    have c3 : w1.cell? ⟨g, off + 3, none⟩ = some (.int .i64 d) := (hcc 3 (by simp)).1
    have R0 : Box w1 w.heap.size [.int .i64 0, .int .i64 0, .int .i64 0, .int .i64 0] := Box.below (Box.new _ _ _) hb1
    have T1 : Below w.heap.size w w1 := by repeat (first | with_reducible exact own_refl _ | with_reducible assumption | with_reducible apply own_alloc | with_reducible apply own_drewN | with_reducible apply own_drew | ((with_reducible refine own_setCell ?_ ?_ _); rotate_left; focus (first | (simp; done) | (simp; omega))) | (with_reducible (refine own_trans ?_ (by assumption))))
    obtain ⟨_, _, _, _, _, _, _, _, _⟩ := R0.four
    clear hc hcc hl
    simp only [List.length_cons, List.length_nil]
    have hat := at4 ⟨g, off, none⟩ cap
    rcases hM : isM a b c d with _ | _
    · have HI := Lib.hid (fun w => implIs_is false a b c d w hM)
      have HM := Lib.hid hM
      clear hM
      go_wp2_with fail
      refine (HI.out _).mono ?_
      rintro e w2 ⟨rfl, hb2⟩
      have R0 := R0.below hb2
      have T2 := own_trans T1 hb2
      obtain ⟨_, _, _, _, _, _, _, _, _⟩ := R0.four
      go_wp2
      obtain ⟨d0, d1, d2, d3⟩ := R0.reads4R (.int .i64 0) (.int .i64 0) (.int .i64 0) (.int .i64 0)
      exact bodyPost_ret (v := .tuple #[(.agg #[.int .i64 0, .int .i64 0, .int .i64 0, .int .i64 0]), (.int .i64 6)]) (by simp [results, Tryd.results7, go_sem, d0, d1, d2, d3]) rfl ⟨Mat.zero, false, rfl, Lib.hid (.inr ⟨rfl, rfl, fun a' b' c' d' hM' he => by
        have := itoa_map_injW HX.out.2 (wide4 hM') (HX.out.1.symm.trans he)
        simp only [List.cons.injEq, and_true] at this
        obtain ⟨rfl, rfl, rfl, rfl⟩ := this
        rw [HM.out] at hM'; cases hM'⟩), by repeat (first | with_reducible exact own_refl _ | with_reducible assumption | with_reducible apply own_alloc | with_reducible apply own_drewN | with_reducible apply own_drew | ((with_reducible refine own_setCell ?_ ?_ _); rotate_left; focus (first | (simp; done) | (simp; omega))) | (with_reducible (refine own_trans ?_ (by assumption))))⟩
    · have HI := Lib.hid (fun w => implIs_is true a b c d w hM)
      have HM := Lib.hid hM
      clear hM
      go_wp2_with fail
      refine (HI.out _).mono ?_
      rintro e w2 ⟨rfl, hb2⟩
      have R0 := R0.below hb2
      have T2 := own_trans T1 hb2
      obtain ⟨_, _, _, _, _, _, _, _, _⟩ := R0.four
      have hg1 : g < w1.heap.size := by omega
      have e0 : w2.cell? ⟨g, off, none⟩ = some (.int .i64 a) := (hb2.cell (p := ⟨g, off, none⟩) hg1).trans c0
      have e1 : w2.cell? ⟨g, off + 1, none⟩ = some (.int .i64 b) := (hb2.cell (p := ⟨g, off + 1, none⟩) hg1).trans c1
      have e2 : w2.cell? ⟨g, off + 2, none⟩ = some (.int .i64 c) := (hb2.cell (p := ⟨g, off + 2, none⟩) hg1).trans c2
      have e3 : w2.cell? ⟨g, off + 3, none⟩ = some (.int .i64 d) := (hb2.cell (p := ⟨g, off + 3, none⟩) hg1).trans c3
      go_wp2
      obtain ⟨d0, d1, d2, d3⟩ := R0.reads4R (.int .i64 a) (.int .i64 b) (.int .i64 c) (.int .i64 d)
      exact bodyPost_ret (v := .tuple #[(.agg #[.int .i64 a, .int .i64 b, .int .i64 c, .int .i64 d]), (.int .i64 0)]) (by simp [results, Tryd.results7, go_sem, d0, d1, d2, d3]) rfl ⟨⟨a, b, c, d⟩, true, rfl, Lib.hid (.inl ⟨rfl, HX.out.1, HM.out⟩), by repeat (first | with_reducible exact own_refl _ | with_reducible assumption | with_reducible apply own_alloc | with_reducible apply own_drewN | with_reducible apply own_drew | ((with_reducible refine own_setCell ?_ ?_ _); rotate_left; focus (first | (simp; done) | (simp; omega))) | (with_reducible (refine own_trans ?_ (by assumption))))⟩
  · have R0 : Box w1 w.heap.size [.int .i64 0, .int .i64 0, .int .i64 0, .int .i64 0] := Box.below (Box.new _ _ _) hb1
    have T1 : Below w.heap.size w w1 := by repeat (first | with_reducible exact own_refl _ | with_reducible assumption | with_reducible apply own_alloc | with_reducible apply own_drewN | with_reducible apply own_drew | ((with_reducible refine own_setCell ?_ ?_ _); rotate_left; focus (first | (simp; done) | (simp; omega))) | (with_reducible (refine own_trans ?_ (by assumption))))
    obtain ⟨_, _, _, _, _, _, _, _, _⟩ := R0.four
    go_wp2
    obtain ⟨d0, d1, d2, d3⟩ := R0.reads4R (.int .i64 0) (.int .i64 0) (.int .i64 0) (.int .i64 0)
    exact bodyPost_ret (v := .tuple #[(.agg #[.int .i64 0, .int .i64 0, .int .i64 0, .int .i64 0]), (.int .i64 6)]) (by simp [results, Tryd.results7, go_sem, d0, d1, d2, d3]) rfl ⟨Mat.zero, false, rfl, Lib.hid (.inr ⟨rfl, rfl, fun a b c d hM he => HX.out _ (wide4 hM) rfl he⟩), by repeat (first | with_reducible exact own_refl _ | with_reducible assumption | with_reducible apply own_alloc | with_reducible apply own_drewN | with_reducible apply own_drew | ((with_reducible refine own_setCell ?_ ?_ _); rotate_left; focus (first | (simp; done) | (simp; omega))) | (with_reducible (refine own_trans ?_ (by assumption))))⟩
end Go.Proofs.YtfgbmddmmgipnaaDoor
