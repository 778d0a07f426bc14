/- impl.NextInRow: contracts. -/
import Derived.Test.YtmlbbhhjjepmkaaDoorRowI
import Derived.Test.YtmlbbhhjjepmkaaDoorRowH
import Derived.Test.YtmlbbhhjjepmkaaDoorDoorF
namespace Go.Proofs.YtmlbbhhjjepmkaaDoor
open Go.ChangeShapes Go.WideShapes Go.ChangeAt Go.RowKit Go.Shelf
attribute [local go_sem] Oper.semAt_some

theorem isF_entN {p q : Int} (h : isF p q = true) : (0 < q ∨ p = 1) ∧ Int.gcd p q = 1 := by
  obtain ⟨h1, h2, h3, h4, h5⟩ := of_decide_eq_true h
  exact ⟨h5, h4⟩
/-- n and a/b are such as NextInRow asks for. -/
def nirOk (n a b : Int) : Prop := 1 ≤ n ∧ n ≤ 1000 ∧ 0 ≤ a ∧ a ≤ b ∧ b ≤ n
/-- What NextInRow keeps between two rounds: whether the last one was a/b. -/
def NI (w : World) (n a b : Int) (e0 e1 em : Nat) (pre : List (Int × Int)) (W : World) : Prop :=
  Below w.heap.size w W ∧ em + 2 ≤ W.heap.size ∧ Box W e0 [.int .i64 a, .int .i64 b] ∧ Box W e1 [(.int .i64 n)] ∧ Box W w.heap.size [.int .i64 0, .int .i64 0] ∧ Box W (w.heap.size + 1) [(.int .i64 0)] ∧
    ∃ m : Bool, Box W em [.bool m] ∧ Hid ((m = true → ∃ pre0 r s, pre = pre0 ++ [(a, b)] ∧ RowSt n pre0 a b r s) ∧ (m = false → (a, b) ∉ pre))
def NIx (w : World) (n a b : Int) (em : Nat) (c : Code) (_ : List (Int × Int)) (W : World) : Prop :=
  c = .ret ∧ Below w.heap.size w W ∧ em + 2 ≤ W.heap.size ∧ ∃ r s pre, Box W w.heap.size [.int .i64 r, .int .i64 s] ∧ Box W (w.heap.size + 1) [(.int .i64 0)] ∧ Hid (RowSt n pre a b r s ∧ ¬ (a = 1 ∧ b = 1))
theorem rowFunD (n : Int) (w : World) :
    Calls Tryd.prog 21 #[(.int .i64 n)] w fun e w' => e = .returned (.func (.func 42) #[] #[.pointer (some ⟨w.heap.size, 0, none⟩)]) ∧ w' = w.alloc (.cells #[(.int .i64 n)] 2) := by
  go_enter Tryd.func21, Tryd.ntmps21
  go_wp2
  go_ret
  exact ⟨rfl, rfl⟩

set_option maxRecDepth 100000 in
set_option maxHeartbeats 4000000 in
theorem cloN_yes (n a b : Int) (h : isF a b = true) (ho : nirOk n a b) (r0 r1 k : Int) (hres : ((a = 1 ∧ b = 1) ∧ r0 = 0 ∧ r1 = 0 ∧ k = 4) ∨ (¬ (a = 1 ∧ b = 1) ∧ k = 0 ∧ ∃ pre, RowSt n pre a b r0 r1)) (e0 e1 : Nat) (w : World) (B0 : Box w e0 [.int .i64 a, .int .i64 b]) (B1 : Box w e1 [(.int .i64 n)]) :
    Calls Tryd.prog 19 #[.pointer (some ⟨e0, 0, none⟩), .pointer (some ⟨e1, 0, none⟩)] w fun e w' => e = .returned (.tuple #[(.agg #[.int .i64 r0, .int .i64 r1]), (.int .i64 k)]) ∧ Below w.heap.size w w' := by
  have H := Lib.hid h
  have HR := Lib.hid hres
  have HO := Lib.hid ho
  obtain ⟨hn1, hn2, ha0, hab, hbn⟩ := ho
  have hE := isF_entN h
  have HM := Lib.hid (row_met (n := n) ha0 hab (by omega) hbn hE.2)
  clear h hres
  have q1 : ¬ n < 1 := by omega
  have q2 : ¬ 1000 < n := by omega
  have q3 : ¬ a < 0 := by omega
  have q4 : ¬ b < a := by omega
  have q5 : ¬ n < b := by omega
  obtain ⟨hl0, _, _, _, _⟩ := B0.two
  obtain ⟨hl1, _, _⟩ := B1.one
  refine (callsIn_wide (n := 3)).1 ?_
  have hro : Fence.wide.round = none := rfl
  refine callsIn_of_wp_marks Tryd.func19 rfl trivial ?_ hro
  simp only [Tryd.ntmps19, List.size_toArray, List.length_cons, List.length_nil, Nat.reduceAdd, Nat.reduceSub, Array.replicate_succ, Array.replicate_zero, List.push_toArray, List.append_toArray, List.nil_append, List.cons_append]
  gi_wp2_with fail
  refine ⟨trivial, (callsIn_wide.2 (must1_yes _ a b H.out _ (Box.newAt (by simp) _ _))).mono ?_⟩
  rintro e w1 ⟨rfl, hb1⟩
  have T1 : Below w.heap.size w w1 := by repeat (first | with_reducible exact own_refl _ | with_reducible assumption | with_reducible apply own_alloc | with_reducible apply own_drewN | with_reducible apply own_drew | ((with_reducible refine own_setCell ?_ ?_ _); rotate_left; focus (first | (simp; done) | (simp; omega))) | (with_reducible (refine own_trans ?_ (by assumption))))
  have C0 := B0.below T1
  have C1 := B1.below T1
  have Z0 : Box w1 w.heap.size [.int .i64 0, .int .i64 0] := Box.below (Box.alloc (Box.alloc (Box.new _ _ _) _) _) hb1
  have Z1 : Box w1 (w.heap.size + 1) [(.int .i64 0)] := Box.below (Box.alloc (Box.newAt (by simp) _ _) _) hb1
  obtain ⟨_, _, _, _, _⟩ := C0.two
  obtain ⟨_, _, _⟩ := C1.one
  gi_wp2_with fail
  refine ⟨trivial, (callsIn_wide.2 (rowFunD n _)).mono ?_⟩
  rintro e w2 ⟨rfl, rfl⟩
  gi_wp2_with fail
  have hs1 : w.heap.size + 3 ≤ w1.heap.size := by have := hb1.size; simpa using this
  obtain ⟨em, hem⟩ : ∃ em, w1.heap.size = em := ⟨_, rfl⟩
  obtain ⟨W3, hW3⟩ : ∃ W3, (w1.alloc (.cells #[.bool false] 4)).alloc (.cells #[(.int .i64 n)] 2) = W3 := ⟨_, rfl⟩
  have hs3 : W3.heap.size = em + 2 := by rw [← hW3]; simp [hem]
  have T3 : Below w.heap.size w W3 := by rw [← hW3]; repeat (first | with_reducible exact own_refl _ | with_reducible assumption | with_reducible apply own_alloc | with_reducible apply own_drewN | with_reducible apply own_drew | ((with_reducible refine own_setCell ?_ ?_ _); rotate_left; focus (first | (simp; done) | (simp; omega))) | (with_reducible (refine own_trans ?_ (by assumption))))
  have CR : Box W3 (em + 1) [(.int .i64 n)] := by rw [← hW3, ← hem]; exact Box.newAt (by simp) _ _
  have D0 : Box W3 e0 [.int .i64 a, .int .i64 b] := by rw [← hW3]; exact (C0.alloc _).alloc _
  have D1 : Box W3 e1 [(.int .i64 n)] := by rw [← hW3]; exact (C1.alloc _).alloc _
  have I3 : NI w n a b e0 e1 em [] W3 := by
    refine ⟨T3, by omega, D0, D1, ?_, ?_, false, ?_, Lib.hid ⟨fun h => (by cases h), fun _ => (by simp)⟩⟩
    · rw [← hW3]; exact (Z0.alloc _).alloc _
    · rw [← hW3]; exact (Z1.alloc _).alloc _
    · rw [← hW3, ← hem]; exact Box.alloc (Box.new _ _ _) _
  rw [hW3, hem]
  clear hW3
  have OI : OwnC W3.heap.size (W3.heap.size + 4) (NI w n a b e0 e1 em) := by
    rintro s X Y row ⟨h1, h2, h3, h4, h5, h6, m, h7, h8⟩ hg hr
    rw [hs3] at hr
    exact ⟨below_ownC h1 hg hr (by omega) (by omega), Nat.le_trans h2 hg.size, h3.ownC hg hr (by omega), h4.ownC hg hr (by omega), h5.ownC hg hr (by omega), h6.ownC hg hr (by omega), m, h7.ownC hg hr (by omega), h8⟩
  refine rangeC (gf := 42) (lb := #[.pointer (some ⟨em + 1, 0, none⟩)]) rfl (fun _ _ => by kernel_rfl)
    (rowSeq n hn1 hn2 (em + 1) (fun k => k = em + 1) rfl W3 CR) (Below.refl _ _) (fun k hk => by omega) (fun _ => rfl)
    (NI w n a b e0 e1 em) (NIx w n a b em) OI ?hIx I3 (fun x a' W => ∃ (g : Nat) (u6 u7 u8 u9 u10 u11 u12 u13 u14 u15 u16 u17 u18 u19 u20 u21 u22 u23 u24 u25 u26 u27 u28 u29 u30 u31 u32 u33 u34 u35 u36 u37 u38 u39 u40 u41 u42 : Value), W3.heap.size + 4 ≤ g ∧ Box W g [.int .i64 x.1, .int .i64 x.2] ∧ a' = { tmps := #[.pointer (some ⟨e0, 0, none⟩), .pointer (some ⟨e1, 0, none⟩), .pointer (some ⟨w.heap.size, 0, none⟩), .pointer (some ⟨w.heap.size + 1, 0, none⟩), .pointer (some ⟨em, 0, none⟩), .pointer (some ⟨g, 0, none⟩), u6, u7, u8, u9, u10, u11, u12, u13, u14, u15, u16, u17, u18, u19, u20, u21, u22, u23, u24, u25, u26, u27, u28, u29, u30, u31, u32, u33, u34, u35, u36, u37, u38, u39, u40, u41, u42], defers := [] }) ?hAx ?assign ?body ?done ?stop
  case hIx =>
    rintro c s X Y row ⟨h0, h1, h2, r, t, pre, h3, h4, h5⟩ hg hr
    rw [hs3] at hr
    exact ⟨h0, below_ownC h1 hg hr (by omega) (by omega), Nat.le_trans h2 hg.size, r, t, pre, h3.ownC hg hr (by omega), h4.ownC hg hr (by omega), h5⟩
  case hAx =>
    rintro x s X Y row ⟨g, u6, u7, u8, u9, u10, u11, u12, u13, u14, u15, u16, u17, u18, u19, u20, u21, u22, u23, u24, u25, u26, u27, u28, u29, u30, u31, u32, u33, u34, u35, u36, u37, u38, u39, u40, u41, u42, h1, h2, h3⟩ hg hr
    exact ⟨g, u6, u7, u8, u9, u10, u11, u12, u13, u14, u15, u16, u17, u18, u19, u20, u21, u22, u23, u24, u25, u26, u27, u28, u29, u30, u31, u32, u33, u34, u35, u36, u37, u38, u39, u40, u41, u42, h1, h2.ownC hg hr (by omega), h3⟩
  case assign =>
    rintro l pre x W K hI hz hK
    simp only [encF]
    gi_wp2
    exact hK _ _ (KeepC.grown (World.grownBy_alloc _ _ none) (fun r e => by cases e)) (OI.alloc hI _) ⟨W.heap.size, _, _, _, _, _, _, _, _, _, _, _, _, _, _, _, _, _, _, _, _, _, _, _, _, _, _, _, _, _, _, _, _, _, _, _, _, _, hz, Box.new _ _ _, rfl⟩
  case body =>
    rintro l pre x a' W hI ⟨g, u6, u7, u8, u9, u10, u11, u12, u13, u14, u15, u16, u17, u18, u19, u20, u21, u22, u23, u24, u25, u26, u27, u28, u29, u30, u31, u32, u33, u34, u35, u36, u37, u38, u39, u40, u41, u42, hg, hB, rfl⟩ hz hnx
    obtain ⟨T, hsz, X0, X1, Y0, Y1, m, XM, HMM⟩ := hI
    obtain ⟨x0, x1⟩ := x
    obtain ⟨_, g0, g1, _, _⟩ := hB.two
    obtain ⟨_, _, _, _, _⟩ := X0.two
    obtain ⟨_, _, _, _, _⟩ := Y0.two
    obtain ⟨_, _, _⟩ := Y1.one
    obtain ⟨_, hm0, hm1⟩ := XM.one
    simp only at g0 g1
    have HX := Lib.hid hnx
    clear hnx
    cases m with
    | true =>
      gi_wp2
      have hne : ∀ r, some r = some w.heap.size ∨ some r = some (w.heap.size + 1) → ¬ (r = em + 1 ∨ (em + 2 ≤ r ∧ r < em + 2 + 4)) := fun r hr => by simp at hr; omega
      obtain ⟨pre0, r, s, rfl, hst⟩ := HMM.out.1 (by simp)
      obtain ⟨_, _, hx⟩ := HX.out
      obtain ⟨hn1', hx'⟩ := hst.next hx.pre
      injection hx' with hx0 hx1
      refine ⟨((KeepC.grown (grownBy_set _ _ _) fun r e => hne r (.inl e.symm)).trans (KeepC.grown (grownBy_set _ _ _) fun r e => hne r (.inl e.symm))).trans (KeepC.grown (grownBy_set _ _ _) fun r e => hne r (.inr e.symm)), rfl, by repeat (first | with_reducible exact own_refl _ | with_reducible assumption | with_reducible apply own_alloc | with_reducible apply own_drewN | with_reducible apply own_drew | ((with_reducible refine own_setCell ?_ ?_ _); rotate_left; focus (first | (simp; done) | (simp; omega))) | (with_reducible (refine own_trans ?_ (by assumption)))), by simpa using hsz, r, s, pre0, ?_, ?_, Lib.hid ⟨hst, hn1'⟩⟩
      · rw [← hx0, ← hx1]; exact Box.far (Box.put2 Y0 (.int .i64 x0) (.int .i64 x1)) (by dsimp only; omega) _
      · exact Box.set ((Y1.far (p := ⟨w.heap.size, 0, none⟩) (by dsimp only; omega) (.int .i64 x0)).far (p := ⟨w.heap.size, 1, none⟩) (by dsimp only; omega) (.int .i64 x1)) 0 (by simp) (.int .i64 0)
    | false =>
      have heq : ∀ w, (Op.equalIn 10000 23 (.agg #[.int .i64 x0, .int .i64 x1]) (.agg #[.int .i64 a, .int .i64 b])).run Tryd.prog w = .ok (decide (x0 = a ∧ x1 = b)) w := fun w => eq_fr x0 x1 a b w
      gi_wp2
      have hne : ∀ r, some r = some em → ¬ (r = em + 1 ∨ (em + 2 ≤ r ∧ r < em + 2 + 4)) := fun r hr => by simp at hr; omega
      have hm1 : em ≠ e0 ∧ em ≠ e1 ∧ em ≠ w.heap.size ∧ em ≠ w.heap.size + 1 := by have := B0.1; have := B1.1; omega
      refine ⟨KeepC.grown (grownBy_set _ _ _) fun r e => hne r e.symm, own_setCell T (by dsimp only; omega) _, by simpa using hsz, X0.far (by dsimp only; omega) _, X1.far (by dsimp only; omega) _, Y0.far (by dsimp only; omega) _, Y1.far (by dsimp only; omega) _, (decide (x0 = a) && decide (x1 = b)), Box.set XM 0 (by simp) _, Lib.hid ⟨fun h => ?_, fun h => ?_⟩⟩
      · obtain ⟨rfl, rfl⟩ : x0 = a ∧ x1 = b := by simpa using h
        obtain ⟨r, s, hx⟩ := HX.out
        exact ⟨pre, r, s, rfl, hx⟩
      · have h1 := HMM.out.2 (by simp)
        have h2 : ¬ (x0 = a ∧ x1 = b) := by simpa using h
        intro hmem
        rcases List.mem_append.1 hmem with h3 | h3
        · exact h1 h3
        · simp at h3
          exact h2 ⟨h3.1.symm, h3.2.symm⟩
  case done =>
    rintro ys W rfl hI hD
    obtain ⟨T, hsz, X0, X1, Y0, Y1, m, XM, HMM⟩ := hI
    obtain ⟨_, _, _, _, _⟩ := Y0.two
    obtain ⟨_, _, _⟩ := Y1.one
    obtain ⟨pre, r, s, hmet⟩ := HM.out
    have HF : Hid (r0 = 0 ∧ r1 = 0 ∧ k = 4) := Lib.hid (by
      have hmem : (a, b) ∈ rowAll n := hmet.pre.subset (by simp)
      cases m with
      | false => exact absurd hmem (HMM.out.2 (by simp))
      | true =>
        obtain ⟨pre0, r', s', hall, hst⟩ := HMM.out.1 (by simp)
        rcases HR.out with h | ⟨h1, _⟩
        · exact h.2
        · have := (hst.step h1).pre.length_le
          rw [hall] at this
          simp at this)
    gi_wp2
    have V0 : Box (((W.setCell ⟨w.heap.size, 0, none⟩ (.int .i64 0)).setCell ⟨w.heap.size, 1, none⟩ (.int .i64 0)).setCell ⟨w.heap.size + 1, 0, none⟩ (.int .i64 4)) w.heap.size [.int .i64 0, .int .i64 0] := Box.far (Box.put2 Y0 (.int .i64 0) (.int .i64 0)) (by dsimp only; omega) _
    have V1 : Box (((W.setCell ⟨w.heap.size, 0, none⟩ (.int .i64 0)).setCell ⟨w.heap.size, 1, none⟩ (.int .i64 0)).setCell ⟨w.heap.size + 1, 0, none⟩ (.int .i64 4)) (w.heap.size + 1) [(.int .i64 4)] :=
      Box.set ((Y1.far (p := ⟨w.heap.size, 0, none⟩) (by dsimp only; omega) (.int .i64 0)).far (p := ⟨w.heap.size, 1, none⟩) (by dsimp only; omega) (.int .i64 0)) 0 (by simp) (.int .i64 4)
    have TZ : Below w.heap.size w (((W.setCell ⟨w.heap.size, 0, none⟩ (.int .i64 0)).setCell ⟨w.heap.size, 1, none⟩ (.int .i64 0)).setCell ⟨w.heap.size + 1, 0, none⟩ (.int .i64 4)) := by repeat (first | with_reducible exact own_refl _ | with_reducible assumption | with_reducible apply own_alloc | with_reducible apply own_drewN | with_reducible apply own_drew | ((with_reducible refine own_setCell ?_ ?_ _); rotate_left; focus (first | (simp; done) | (simp; omega))) | (with_reducible (refine own_trans ?_ (by assumption))))
    have hDZ : (((W.setCell ⟨w.heap.size, 0, none⟩ (.int .i64 0)).setCell ⟨w.heap.size, 1, none⟩ (.int .i64 0)).setCell ⟨w.heap.size + 1, 0, none⟩ (.int .i64 4)).heap[em + 2]? = some (.deferred (some [])) := by
      refine Eq.trans ?_ (hs3 ▸ hD)
      exact (Below.heap_setCell _ ⟨w.heap.size + 1, 0, none⟩ _ _ (by dsimp only; omega)).trans ((Below.heap_setCell _ ⟨w.heap.size, 1, none⟩ _ _ (by dsimp only; omega)).trans (Below.heap_setCell _ ⟨w.heap.size, 0, none⟩ _ _ (by dsimp only; omega)))
    rw [hs3]
    generalize (((W.setCell ⟨w.heap.size, 0, none⟩ (.int .i64 0)).setCell ⟨w.heap.size, 1, none⟩ (.int .i64 0)).setCell ⟨w.heap.size + 1, 0, none⟩ (.int .i64 4)) = wz at *
    refine ⟨by simp, .inl ⟨_, _, rfl, run_takeDeferred hDZ, ?_⟩⟩
    obtain ⟨_, z0, z1, _, _⟩ := (V0.of_heap (w' := wz.putObj (em + 2) (.deferred none)) (World.putObj_heap_other (by omega)) (by simp)).two
    obtain ⟨_, z2, _⟩ := (V1.of_heap (w' := wz.putObj (em + 2) (.deferred none)) (World.putObj_heap_other (by omega)) (by simp)).one
    exact ⟨_, by simp [results, Tryd.results19, go_sem, z0, z1, z2]; rfl, by rw [HF.out.1, HF.out.2.1, HF.out.2.2], TZ.grown (grownBy_putObj' _ _ _) TZ.size (fun k e => by cases e; omega)⟩
  case stop =>
    rintro c pre W hpre ⟨rfl, T, hsz, r, s, pre', Y0, Y1, HST⟩ hD
    have HF : Hid (r = r0 ∧ s = r1 ∧ k = 0) := Lib.hid (by
      rcases HR.out with h | ⟨_, h2, pre2, h3⟩
      · exact absurd h.1 HST.out.2
      · obtain ⟨h4, h5⟩ := HST.out.1.row.one h3.row
        exact ⟨h4, h5, h2⟩)
    obtain ⟨_, _, _, _, _⟩ := Y0.two
    obtain ⟨_, _, _⟩ := Y1.one
    gi_wp2
    rw [hs3] at hD ⊢
    refine ⟨by simp, .inl ⟨_, _, rfl, run_takeDeferred hD, ?_⟩⟩
    obtain ⟨_, z0, z1, _, _⟩ := (Y0.of_heap (w' := W.putObj (em + 2) (.deferred none)) (World.putObj_heap_other (by omega)) (by simp)).two
    obtain ⟨_, z2, _⟩ := (Y1.of_heap (w' := W.putObj (em + 2) (.deferred none)) (World.putObj_heap_other (by omega)) (by simp)).one
    exact ⟨_, by simp [results, Tryd.results19, go_sem, z0, z1, z2]; rfl, by rw [← HF.out.1, ← HF.out.2.1, HF.out.2.2], T.grown (grownBy_putObj' _ _ _) T.size (fun k e => by cases e; omega)⟩
end Go.Proofs.YtmlbbhhjjepmkaaDoor
