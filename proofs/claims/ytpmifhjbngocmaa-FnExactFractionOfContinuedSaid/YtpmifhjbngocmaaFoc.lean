/- impl.FractionOfContinued: contract. -/
import Derived.Test.YtpmifhjbngocmaaFocI
import Derived.Test.YtpmifhjbngocmaaCvI
import Derived.Test.YtpmifhjbngocmaaCvS
import Derived.Test.YtpmifhjbngocmaaIsF
namespace Go.Proofs.Ytpmifhjbngocmaa
open Go.ChangeShapes Go.WideShapes Go.ChangeAt Go.RowKit Go.Shelf
attribute [local go_sem] Oper.semAt_some

theorem Box.ownC {W W' : World} {g B U : Nat} {xs : List Value} {row : Option Nat} (h : Box W g xs) (hg : W.grownBy W' row) (hr : ∀ r, row = some r → B ≤ r ∧ r < U) (hn : g < B ∨ U ≤ g) : Box W' g xs :=
  h.of_heap (hg.block g h.1 (fun e => by have := hr g e.symm; omega)) hg.size
theorem grownBy_set (W : World) (p : Addr) (v : Value) : W.grownBy (W.setCell p v) (some p.block) :=
  ⟨rfl, rfl, rfl, by simp [World.setCell], fun k _ hk => Below.heap_setCell W p v k (fun e => hk (by rw [e]))⟩
theorem Box.far2' {w : World} {g b : Nat} {xs : List Value} (h : Box w g xs) (hne : g ≠ b) (u v : Value) : Box ((w.setCell ⟨b, 0, none⟩ u).setCell ⟨b, 1, none⟩ v) g xs := (h.far hne u).far hne v
theorem below_ownC {w W W' : World} {n B U : Nat} {row : Option Nat} (h : Below n w W) (hg : W.grownBy W' row) (hr : ∀ r, row = some r → B ≤ r ∧ r < U) (hn : n ≤ B) (hz : n ≤ W.heap.size) : Below n w W' :=
  h.grown hg hz (fun k e => by have := hr k e; omega)
/-- the last of a list of fractions -/
def lastQ (ps : List (Int × Int)) : Int × Int := ps.getLast?.getD (0, 0)
theorem lastQ_snoc (ps : List (Int × Int)) (p : Int × Int) : lastQ (ps ++ [p]) = p := by simp [lastQ]
/-- What FractionOfContinued keeps between two rounds. -/
def FI (w : World) (pre : List (Int × Int)) (W : World) : Prop :=
  Below w.heap.size w W ∧ w.heap.size + 4 ≤ W.heap.size ∧ Box W w.heap.size [.int .i64 0, .int .i64 0] ∧ Box W (w.heap.size + 1) [(.int .i64 0)] ∧ Box W (w.heap.size + 1 + 1) [.int .i64 ((lastQ pre).1), .int .i64 ((lastQ pre).2)] ∧ pre.all okQ = true
/-- What it keeps where a round has left it. -/
def FIx (w : World) (c : Code) (pre : List (Int × Int)) (W : World) : Prop :=
  c = .ret ∧ Below w.heap.size w W ∧ w.heap.size + 4 ≤ W.heap.size ∧ Box W w.heap.size [.int .i64 0, .int .i64 0] ∧ Box W (w.heap.size + 1) [(.int .i64 3)] ∧ pre.all okQ = false
theorem allWF2_is (r : Bool) (a b : Int) (g : Nat) (w : World) (hr : (inW a 1000000000 && inW b 1000000000) = r)
    (h0 : w.cell? ⟨g, 0, none⟩ = some (.int .i64 a)) (h1 : w.cell? ⟨g, 1, none⟩ = some (.int .i64 b)) :
    Calls Try.prog 34 #[.slice (some ⟨g, 0, none⟩) 2 2, .int .i64 1000000000] w fun e w' => e = .returned (.bool r) ∧ w = w' :=
  allW2_is r a b g w (by rw [← hr]; simp [allW]) h0 h1

theorem convFun (ad : Option Addr) (m cap : Nat) (w : World) :
    Calls Try.prog 33 #[.slice ad m cap] w fun e w' => e = .returned (.func (.func 40) #[] #[.pointer (some ⟨w.heap.size, 0, none⟩)]) ∧ w' = w.alloc (.cells #[.slice ad m cap] 29) := by
  go_enter Try.func33, Try.ntmps33
  go_wp2
  go_ret
  exact ⟨rfl, rfl⟩
set_option maxRecDepth 100000 in
set_option maxHeartbeats 4000000 in
theorem implFoc_yes (xs : List Int) (h1 : 1 ≤ xs.length) (h2 : xs.length ≤ 60) (hP : contP xs) (b off : Nat) (r0 r1 kd : Int) (hres : ((cvs xs).all okQ = true ∧ (lastQ (cvs xs)).1 = r0 ∧ (lastQ (cvs xs)).2 = r1 ∧ kd = 0) ∨ ((cvs xs).all okQ = false ∧ r0 = 0 ∧ r1 = 0 ∧ kd = 3)) (w : World)
    (hb : b < w.heap.size) (hc : ∀ k, k < xs.length → w.cell? ⟨b, off + k, none⟩ = some (.int .i64 (xs.getD k 0))) :
    Calls Try.prog 13 #[.slice (some ⟨b, off, none⟩) xs.length xs.length] w fun e w' => e = .returned (.tuple #[(.agg #[.int .i64 r0, .int .i64 r1]), (.int .i64 kd)]) ∧ Below w.heap.size w w' := by
  have HC := Lib.hid hc
  have HR := Lib.hid hres
  have HP := Lib.hid hP
  clear hc hres hP
  refine (callsIn_wide (n := 3)).1 ?_
  have hro : Fence.wide.round = none := rfl
  refine callsIn_of_wp_marks Try.func13 rfl trivial ?_ hro
  simp only [Try.ntmps13, List.size_toArray, List.length_cons, List.length_nil, Nat.reduceAdd, Nat.reduceSub, Array.replicate_succ, Array.replicate_zero, List.push_toArray, List.append_toArray, List.nil_append, List.cons_append]
  gi_wp2_with fail
  refine ⟨trivial, (callsIn_wide.2 (isCont_is true b off xs h1 h2 ⟨fun _ => HP.out, fun _ => rfl⟩ _ fun k hk => ((own_alloc (own_alloc (own_refl w) _) _).cell (p := ⟨b, off + k, none⟩) hb).trans (HC.out k hk))).mono ?_⟩
  rintro e w1 ⟨rfl, rfl⟩
  gi_wp2_with fail
  refine ⟨trivial, (callsIn_wide.2 (convFun _ _ _ _)).mono ?_⟩
  rintro e w1 ⟨rfl, rfl⟩
  gi_wp2_with fail
  obtain ⟨W3, hW3⟩ : ∃ W3, (((w.alloc (.cells #[.int .i64 0, .int .i64 0] 31)).alloc (.cells #[(.int .i64 0)] 2)).alloc (.cells #[.int .i64 0, .int .i64 0] 31)).alloc (.cells #[.slice (some ⟨b, off, none⟩) xs.length xs.length] 29) = W3 := ⟨_, rfl⟩
  have hs3 : W3.heap.size = w.heap.size + 4 := by rw [← hW3]; simp
  have T3 : Below w.heap.size w W3 := by rw [← hW3]; repeat (first | with_reducible exact own_refl _ | with_reducible assumption | with_reducible apply own_alloc | with_reducible apply own_drewN | with_reducible apply own_drew | ((with_reducible refine own_setCell ?_ ?_ _); rotate_left; focus (first | (simp; done) | (simp; omega))) | (with_reducible (refine own_trans ?_ (by assumption))))
  have C3 : Box W3 (w.heap.size + 1 + 1 + 1) [.slice (some ⟨b, off, none⟩) xs.length xs.length] := by rw [← hW3]; exact Box.newAt (by simp) _ _
  have I3 : FI w [] W3 := by
    refine ⟨T3, by omega, ?_, ?_, ?_, rfl⟩
    · rw [← hW3]; exact Box.alloc (Box.alloc (Box.alloc (Box.new _ _ _) _) _) _
    · rw [← hW3]; exact Box.alloc (Box.alloc (Box.newAt (by simp) _ _) _) _
    · rw [← hW3]; exact Box.alloc (Box.newAt (by simp) _ _) _
  have hc3 : ∀ k, k < xs.length → b < W3.heap.size ∧ W3.cell? ⟨b, off + k, none⟩ = some (.int .i64 (xs.getD k 0)) := fun k hk => ⟨by omega, (T3.cell (p := ⟨b, off + k, none⟩) hb).trans (HC.out k hk)⟩
  rw [hW3]
  clear hW3
  have OI : OwnC W3.heap.size (W3.heap.size + 4) (FI w) := by
    rintro s X Y row ⟨h1, h2, h3, h4, h5, h6⟩ hg hr
    rw [hs3] at hr
    exact ⟨below_ownC h1 hg hr (by omega) (by omega), Nat.le_trans h2 hg.size, h3.ownC hg hr (by omega), h4.ownC hg hr (by omega), h5.ownC hg hr (by omega), h6⟩
  refine rangeC (gf := 40) (lb := #[.pointer (some ⟨w.heap.size + 1 + 1 + 1, 0, none⟩)]) rfl (fun _ _ => by kernel_rfl)
    (convSeq xs (by omega) (some ⟨b, off, none⟩) xs.length (w.heap.size + 1 + 1 + 1) b off (fun _ => rfl) (fun k => k = b) rfl W3 C3 hc3) (Below.refl _ _) (fun k hk => by omega) (fun _ => rfl)
    (FI w) (FIx w) ?hI ?hIx I3 (fun x a' W => ∃ g, W3.heap.size + 4 ≤ g ∧ Box W g [.int .i64 x.1, .int .i64 x.2] ∧ a' = { tmps := #[.slice (some ⟨b, off, none⟩) xs.length xs.length, undef, .pointer (some ⟨w.heap.size, 0, none⟩), .pointer (some ⟨w.heap.size + 1, 0, none⟩), .pointer (some ⟨w.heap.size + 1 + 1, 0, none⟩), .pointer (some ⟨g, 0, none⟩), .slice (some ⟨b, off, none⟩) xs.length xs.length, .bool true, .bool false, undef, .slice (some ⟨b, off, none⟩) xs.length xs.length, .func (.func 40) #[] #[.pointer (some ⟨w.heap.size + 1 + 1 + 1, 0, none⟩)], (.agg #[.int .i64 x.1, .int .i64 x.2]), undef, undef, undef, undef, undef, undef], defers := [] }) ?hAx ?assign ?body ?done ?stop
  case hI => exact OI
  case hIx =>
    rintro c s X Y row ⟨h0, h1, h2, h3, h4, h5⟩ hg hr
    rw [hs3] at hr
    exact ⟨h0, below_ownC h1 hg hr (by omega) (by omega), Nat.le_trans h2 hg.size, h3.ownC hg hr (by omega), h4.ownC hg hr (by omega), h5⟩
  case hAx =>
    rintro x s X Y row ⟨g, h1, h2, h3⟩ hg hr
    exact ⟨g, h1, h2.ownC hg hr (by omega), h3⟩
  case assign =>
    rintro l pre x W K hI hz hK
    simp only [encF]
    gi_wp2
    exact hK _ _ (KeepC.grown (World.grownBy_alloc _ _ none) (fun r e => by cases e)) (OI.alloc hI _) ⟨W.heap.size, hz, Box.new _ _ _, rfl⟩
  case body =>
    rintro l pre x a' W hI ⟨g, hg, hB, rfl⟩ hz hnx
    obtain ⟨T, hsz, B0, B1, B2, hok⟩ := hI
    obtain ⟨_, g0, g1, _, _⟩ := hB.two
    obtain ⟨_, _, _, _, _⟩ := B0.two
    obtain ⟨_, _, _⟩ := B1.one
    obtain ⟨_, _, _, _, _⟩ := B2.two
    have n0 : w.heap.size ≠ b := by omega
    obtain ⟨x0, x1⟩ := x
    simp only at g0 g1
    rcases hx : (inW x0 1000000000 && inW x1 1000000000) with _ | _
    · have HX := Lib.hid hx
      clear hx
      gi_wp2_with fail
      refine ⟨trivial, (CallsIn.inRound l (callsIn_wide.2 (allWF2_is false x0 x1 g W HX.out g0 g1))).mono ?_⟩
      rintro e w1 ⟨rfl, rfl⟩
      gi_wp2
      have hne : ∀ r, some r = some w.heap.size ∨ some r = some (w.heap.size + 1) → ¬ (r = b ∨ (W3.heap.size ≤ r ∧ r < W3.heap.size + 4)) := fun r hr => by simp at hr; omega
      refine ⟨((KeepC.grown (grownBy_set _ _ _) fun r e => hne r (.inl e.symm)).trans (KeepC.grown (grownBy_set _ _ _) fun r e => hne r (.inl e.symm))).trans (KeepC.grown (grownBy_set _ _ _) fun r e => hne r (.inr e.symm)), rfl, by repeat (first | with_reducible exact own_refl _ | with_reducible assumption | with_reducible apply own_alloc | with_reducible apply own_drewN | with_reducible apply own_drew | ((with_reducible refine own_setCell ?_ ?_ _); rotate_left; focus (first | (simp; done) | (simp; omega))) | (with_reducible (refine own_trans ?_ (by assumption)))), by simpa using hsz, ?_, ?_, ?_⟩
      · exact Box.far (Box.put2 B0 (.int .i64 0) (.int .i64 0)) (by dsimp only; omega) _
      · exact Box.set ((B1.far (p := ⟨w.heap.size, 0, none⟩) (by dsimp only; omega) (.int .i64 0)).far (p := ⟨w.heap.size, 1, none⟩) (by dsimp only; omega) (.int .i64 0)) 0 (by simp) (.int .i64 3)
      · have := HX.out
        simp [List.all_append, okQ, this]
    · have HX := Lib.hid hx
      clear hx
      gi_wp2_with fail
      refine ⟨trivial, (CallsIn.inRound l (callsIn_wide.2 (allWF2_is true x0 x1 g W HX.out g0 g1))).mono ?_⟩
      rintro e w1 ⟨rfl, rfl⟩
      gi_wp2
      have hne : ∀ r, some r = some (w.heap.size + 1 + 1) → ¬ (r = b ∨ (W3.heap.size ≤ r ∧ r < W3.heap.size + 4)) := fun r hr => by simp at hr; omega
      refine ⟨(KeepC.grown (grownBy_set _ _ _) fun r e => hne r e.symm).trans (KeepC.grown (grownBy_set _ _ _) fun r e => hne r e.symm), by repeat (first | with_reducible exact own_refl _ | with_reducible assumption | with_reducible apply own_alloc | with_reducible apply own_drewN | with_reducible apply own_drew | ((with_reducible refine own_setCell ?_ ?_ _); rotate_left; focus (first | (simp; done) | (simp; omega))) | (with_reducible (refine own_trans ?_ (by assumption)))), by simpa using hsz, B0.far2' (by omega) _ _, (B1.far (by dsimp only; omega) _).far (by dsimp only; omega) _, ?_, ?_⟩
      · rw [lastQ_snoc]; exact Box.put2 B2 (.int .i64 x0) (.int .i64 x1)
      · have := HX.out
        simp [List.all_append, okQ, this, hok]
  case done =>
    rintro ys W rfl hI hD
    obtain ⟨T, hsz, B0, B1, B2, hok⟩ := hI
    obtain ⟨_, _, _, _, _⟩ := B0.two
    obtain ⟨_, _, _⟩ := B1.one
    obtain ⟨_, _, _, _, _⟩ := B2.two
    obtain ⟨⟨q0, q1⟩, hq⟩ : ∃ q, lastQ (cvs xs) = q := ⟨_, rfl⟩
    have HF : Hid (q0 = r0 ∧ q1 = r1 ∧ kd = 0) := Lib.hid (by rcases HR.out with h | h <;> simp_all)
    rw [hq] at B2
    gi_wp2
    have Z0 : Box (((W.setCell ⟨w.heap.size, 0, none⟩ (.int .i64 q0)).setCell ⟨w.heap.size, 1, none⟩ (.int .i64 q1)).setCell ⟨w.heap.size + 1, 0, none⟩ (.int .i64 0)) w.heap.size [.int .i64 q0, .int .i64 q1] := Box.far (Box.put2 B0 (.int .i64 q0) (.int .i64 q1)) (by dsimp only; omega) _
    have Z1 : Box (((W.setCell ⟨w.heap.size, 0, none⟩ (.int .i64 q0)).setCell ⟨w.heap.size, 1, none⟩ (.int .i64 q1)).setCell ⟨w.heap.size + 1, 0, none⟩ (.int .i64 0)) (w.heap.size + 1) [(.int .i64 0)] :=
      Box.set ((B1.far (p := ⟨w.heap.size, 0, none⟩) (by dsimp only; omega) (.int .i64 q0)).far (p := ⟨w.heap.size, 1, none⟩) (by dsimp only; omega) (.int .i64 q1)) 0 (by simp) (.int .i64 0)
    have TZ : Below w.heap.size w (((W.setCell ⟨w.heap.size, 0, none⟩ (.int .i64 q0)).setCell ⟨w.heap.size, 1, none⟩ (.int .i64 q1)).setCell ⟨w.heap.size + 1, 0, none⟩ (.int .i64 0)) := by repeat (first | with_reducible exact own_refl _ | with_reducible assumption | with_reducible apply own_alloc | with_reducible apply own_drewN | with_reducible apply own_drew | ((with_reducible refine own_setCell ?_ ?_ _); rotate_left; focus (first | (simp; done) | (simp; omega))) | (with_reducible (refine own_trans ?_ (by assumption))))
    have hDZ : (((W.setCell ⟨w.heap.size, 0, none⟩ (.int .i64 q0)).setCell ⟨w.heap.size, 1, none⟩ (.int .i64 q1)).setCell ⟨w.heap.size + 1, 0, none⟩ (.int .i64 0)).heap[w.heap.size + 4]? = some (.deferred (some [])) := by
      refine Eq.trans ?_ (hs3 ▸ hD)
      exact (Below.heap_setCell _ ⟨w.heap.size + 1, 0, none⟩ _ _ (by dsimp only; omega)).trans ((Below.heap_setCell _ ⟨w.heap.size, 1, none⟩ _ _ (by dsimp only; omega)).trans (Below.heap_setCell _ ⟨w.heap.size, 0, none⟩ _ _ (by dsimp only; omega)))
    have hzz : w.heap.size + 4 ≤ (((W.setCell ⟨w.heap.size, 0, none⟩ (.int .i64 q0)).setCell ⟨w.heap.size, 1, none⟩ (.int .i64 q1)).setCell ⟨w.heap.size + 1, 0, none⟩ (.int .i64 0)).heap.size := by simpa using hsz
    generalize (((W.setCell ⟨w.heap.size, 0, none⟩ (.int .i64 q0)).setCell ⟨w.heap.size, 1, none⟩ (.int .i64 q1)).setCell ⟨w.heap.size + 1, 0, none⟩ (.int .i64 0)) = wz at *
    refine ⟨by simp, .inl ⟨_, _, rfl, run_takeDeferred hDZ, ?_⟩⟩
    obtain ⟨_, z0, z1, _, _⟩ := (Z0.of_heap (w' := wz.putObj (w.heap.size + 4) (.deferred none)) (World.putObj_heap_other (by omega)) (by simp)).two
    obtain ⟨_, z2, _⟩ := (Z1.of_heap (w' := wz.putObj (w.heap.size + 4) (.deferred none)) (World.putObj_heap_other (by omega)) (by simp)).one
    exact ⟨_, by simp [results, Try.results13, go_sem, z0, z1, z2]; rfl, by rw [← HF.out.1, ← HF.out.2.1, HF.out.2.2], TZ.grown (grownBy_putObj' _ _ _) TZ.size (fun k e => by cases e; omega)⟩
  case stop =>
    rintro c pre W hpre ⟨rfl, hI⟩ hD
    obtain ⟨T, hsz, B0, B1, hok⟩ := hI
    have HF : Hid (0 = r0 ∧ 0 = r1 ∧ kd = 3) := Lib.hid (by
      have := ok_prefix hpre hok
      rcases HR.out with h | h
      · rw [h.1] at this; cases this
      · exact ⟨h.2.1.symm, h.2.2.1.symm, h.2.2.2⟩)
    obtain ⟨_, _, _, _, _⟩ := B0.two
    obtain ⟨_, _, _⟩ := B1.one
    gi_wp2
    rw [hs3] at hD ⊢
    refine ⟨by simp, .inl ⟨_, _, rfl, run_takeDeferred hD, ?_⟩⟩
    obtain ⟨_, z0, z1, _, _⟩ := (B0.of_heap (w' := W.putObj (w.heap.size + 4) (.deferred none)) (World.putObj_heap_other (by omega)) (by simp)).two
    obtain ⟨_, z2, _⟩ := (B1.of_heap (w' := W.putObj (w.heap.size + 4) (.deferred none)) (World.putObj_heap_other (by omega)) (by simp)).one
    exact ⟨_, by simp [results, Try.results13, go_sem, z0, z1, z2]; rfl, by rw [← HF.out.1, ← HF.out.2.1, HF.out.2.2], T.grown (grownBy_putObj' _ _ _) T.size (fun k e => by cases e; omega)⟩
end Go.Proofs.Ytpmifhjbngocmaa
