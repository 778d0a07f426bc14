/- AreEqualMixes: contracts of both sides, and the walk of its law. -/
import Derived.Test.YtejghidllochoaaDoorLGo
import Derived.Deep.RegionLaw
namespace Go.Proofs.YtejghidllochoaaDoor
open Go.ChangeShapes Go.WideShapes Go.ChangeAt Go.RowKit
open Ech (Sp Rw Stair)

theorem step_app64A {ops : Array Oper} {o : Oper} {a : Act} {W : World} {K : Act → World → Prop} {Q : Exit → Act → World → Prop} {E : Prop} (hgd : o.guard = none) (s x : Operand)
    (ho : o.op = .call { callee := .builtin .append, args := #[s, x], argTypes := #[31, 31] })
    (L : Nat) (v : Value) (xs : List Int) (y : Int) (hs : a.eval s = v) (hown : Gr W L v xs) (g : Nat) (hx : a.eval x = .slice (some ⟨g, 0, none⟩) 1 1)
    (hc : W.cell? ⟨g, 0, none⟩ = some (.int .i64 y)) (hlen : xs.length ≤ 9000000000) (hL : L ≤ W.heap.size)
    (h : ∀ v' w', Gr w' L v' (xs ++ [y]) → Below L W w' → K (a.put o.dst v') w') :
    if Region.wanted o (yielded ops a.tmps) = true then Oper.wp Tryd.prog o a W K Q else E := by
  have hw : Region.wanted o (yielded ops a.tmps) = true := by simp [Region.wanted, hgd]
  rw [if_pos hw]
  obtain ⟨i0, hi, hz0, hz1, hz2⟩ := info_parts info_i64
  refine wp_append_own _ s x 31 ho L 2 i0 (.int .i64 0) 1 8 Tryd.underlying31 hi hz0 hz1 hz2 rfl (by decide) v xs.length _ hs hown ⟨g, 0, none⟩ 1 1 [(.int .i64 y)] hx rfl ?_ ?_ ?_ ?_ ?_ ?_
  · intro j u hj
    match j, hj with
    | 0, hj => simp at hj; subst hj; simpa [Addr.add] using hc
  · intro u hu; simp at hu; subst hu; rfl
  · unfold maxLen; omega
  · omega
  · exact hL
  · intro v' w' hown' hgrow _
    refine h v' w' ?_ ?_
    · have e : (xs ++ [y]).length = xs.length + 1 := by simp
      unfold Gr
      rw [e, List.map_append]
      exact hown'
    · exact (Below.refl L W).grown hgrow hL (fun j hj => (hown.lt j hj).1)
def vs2 (a b : Value) (k : Nat) : Value := if k = 0 then a else b
def xs2 (a b : List Int) (k : Nat) : List Int := if k = 0 then a else b
theorem Mixes.two {w : World} {g : Nat} (hg : w.heap.size = g) (v u : Value) (xs ys : List Int) (L U L' U' : Nat) (hS : Sl w L U v xs) (hS' : Sl w L' U' u ys) : Mixes (w.alloc (.cells #[v, u] 31)) (.slice (some ⟨g, 0, none⟩) 2 2) 2 (vs2 v u) (xs2 xs ys) := by
  subst hg
  refine ⟨⟨_, 2, rfl, fun _ => ⟨w.heap.size, rfl, by simp, fun k hk => ?_⟩⟩, fun k hk => ?_⟩
  · rcases (show k = 0 ∨ k = 1 by omega) with rfl | rfl
    · exact ((Box.new w [v, u] 31).2 0 v rfl).1
    · exact ((Box.new w [v, u] 31).2 1 u rfl).1
  · rcases (show k = 0 ∨ k = 1 by omega) with rfl | rfl
    · exact ⟨L, U, hS.own (own_alloc (own_refl w) _)⟩
    · exact ⟨L', U', hS'.own (own_alloc (own_refl w) _)⟩
/-- the difference -/
def subL (xs ys : List Int) : List Int := (List.range xs.length).map fun k => gv xs k - gv ys k
theorem subL_len (xs ys : List Int) : (subL xs ys).length = xs.length := by simp [subL]
theorem subL_gv {xs ys : List Int} {k : Nat} (h : k < xs.length) : gv (subL xs ys) k = gv xs k - gv ys k := by simp [subL, gv, List.getD, h]
theorem specAe_no (n p c : Int) (xs ys : List Int) (hx : xs.length ≤ 4294967296) (hy : ys.length ≤ 4294967296) (hc : mpC n p 2 (xs2 xs ys) = c) (h0 : c ≠ 0) (v u : Value) (L U L' U' : Nat) (w : World) (hS : Sl w L U v xs) (hS' : Sl w L' U' u ys) : Calls Tryd.prog 23 #[(.int .i64 n), (.int .i64 p), v, u] w fun e w' => e = .returned (.tuple #[.bool false, (.int .i64 c)]) ∧ Below w.heap.size w w' := by
  obtain ⟨av, cv, rfl⟩ : ∃ a c, v = .slice a xs.length c := by obtain ⟨_, a, c, e, _⟩ := hS; exact ⟨a, c, e⟩
  obtain ⟨au, cu, rfl⟩ : ∃ a c, u = .slice a ys.length c := by obtain ⟨_, a, c, e, _⟩ := hS'; exact ⟨a, c, e⟩
  have HC := Lib.hid (fun (w : World) hM => l08Prime_is n p 2 (by omega) (.slice (some ⟨w.heap.size, 0, none⟩) 2 2) (vs2 (.slice av xs.length cv) (.slice au ys.length cu)) (xs2 xs ys) (fun k hk => by unfold xs2; split <;> omega) c hc (w.alloc (.cells #[.slice av xs.length cv, .slice au ys.length cu] 31)) hM)
  have HM := Lib.hid (Mixes.two rfl _ _ xs ys L U L' U' hS hS')
  have hne : (c != 0) = true := by simpa using h0
  clear hc h0 hS hS'
  go_enter Tryd.func23, Tryd.ntmps23
  go_wp2_with fail
  refine (HC.out _ HM.out).mono ?_
  rintro e w2 ⟨rfl, hb2⟩
  go_wp2
  go_ret2
  exact ⟨rfl, by repeat (first | with_reducible exact own_refl _ | with_reducible assumption | with_reducible apply own_alloc | with_reducible apply own_drewN | with_reducible apply own_drew | ((with_reducible refine own_setCell ?_ ?_ _); rotate_left; focus (first | (simp; done) | (simp; omega))) | (with_reducible (refine own_trans ?_ (by assumption))))⟩
theorem implAe_no (n p c : Int) (xs ys : List Int) (hx : xs.length ≤ 4294967296) (hy : ys.length ≤ 4294967296) (hc : mpC n p 2 (xs2 xs ys) = c) (h0 : c ≠ 0) (v u : Value) (L U L' U' : Nat) (w : World) (hS : Sl w L U v xs) (hS' : Sl w L' U' u ys) : Calls Tryd.prog 24 #[(.int .i64 n), (.int .i64 p), v, u] w fun e w' => e = .returned (.tuple #[.bool false, (.int .i64 c)]) ∧ Below w.heap.size w w' := by
  obtain ⟨av, cv, rfl⟩ : ∃ a c, v = .slice a xs.length c := by obtain ⟨_, a, c, e, _⟩ := hS; exact ⟨a, c, e⟩
  obtain ⟨au, cu, rfl⟩ : ∃ a c, u = .slice a ys.length c := by obtain ⟨_, a, c, e, _⟩ := hS'; exact ⟨a, c, e⟩
  have HC := Lib.hid (fun (w : World) hM => codeModulo_is n p 2 (by omega) (.slice (some ⟨w.heap.size, 0, none⟩) 2 2) (vs2 (.slice av xs.length cv) (.slice au ys.length cu)) (xs2 xs ys) (fun k hk => by unfold xs2; split <;> omega) c hc (w.alloc (.cells #[.slice av xs.length cv, .slice au ys.length cu] 31)) hM)
  have HM := Lib.hid (Mixes.two rfl _ _ xs ys L U L' U' hS hS')
  have hne : (c != 0) = true := by simpa using h0
  clear hc h0 hS hS'
  go_enter Tryd.func24, Tryd.ntmps24
  go_wp2_with fail
  refine (HC.out _ HM.out).mono ?_
  rintro e w2 ⟨rfl, hb2⟩
  go_wp2
  go_ret2
  exact ⟨rfl, by repeat (first | with_reducible exact own_refl _ | with_reducible assumption | with_reducible apply own_alloc | with_reducible apply own_drewN | with_reducible apply own_drew | ((with_reducible refine own_setCell ?_ ?_ _); rotate_left; focus (first | (simp; done) | (simp; omega))) | (with_reducible (refine own_trans ?_ (by assumption))))⟩
set_option maxHeartbeats 4000000 in
theorem specAe_yes (n : Int) (p N : Nat) (xs ys : List Int) (hc : mpC n p 2 (xs2 xs ys) = 0) (hN : (ln n).length = N) (r : Bool) (hr : r = true ↔ GO p n N (N + N) (gv (subL xs ys))) (v u : Value) (L U L' U' : Nat) (w : World) (hS : Sl w L U v xs) (hS' : Sl w L' U' u ys) :
    Calls Tryd.prog 23 #[(.int .i64 n), (.int .i64 ((p : Int))), v, u] w fun e w' => e = .returned (.tuple #[.bool r, (.int .i64 0)]) ∧ Below w.heap.size w w' := by
  obtain ⟨hl, hm⟩ := mpC_ok hc
  obtain ⟨hlv, p', hpp, hp5⟩ := lpC_0 hl
  obtain rfl : p = p' := by omega
  obtain ⟨hxl, hxb⟩ : xs.length = (ln n).length ∧ ∀ j, -1000000 ≤ gv xs j ∧ gv xs j ≤ 1000000 := hm 0 (by omega)
  obtain ⟨hyl, hyb⟩ : ys.length = (ln n).length ∧ ∀ j, -1000000 ≤ gv ys j ∧ gv ys j ≤ 1000000 := hm 1 (by omega)
  rw [hN] at hxl hyl
  obtain ⟨_, _, h3, h4⟩ := relN hlv
  rw [hN] at h3 h4
  have hdl : (subL xs ys).length = N := by rw [subL_len]; exact hxl
  have hdb : ∀ k, k < N → I64 (gv (subL xs ys) k) := fun k hk => by rw [subL_gv (by omega)]; have := hxb k; have := hyb k; unfold I64; omega
  obtain ⟨zU, av, cv, hv, hcv⟩ := hS
  obtain ⟨zU', au, cu, hu, hcu⟩ := hS'
  subst hv hu
  have hS : Sl w L U (.slice av xs.length cv) xs := ⟨zU, av, cv, rfl, hcv⟩
  have hS' : Sl w L' U' (.slice au ys.length cu) ys := ⟨zU', au, cu, rfl, hcu⟩
  have HC := Lib.hid (fun (w : World) hM => l08Prime_is n p 2 (by omega) (.slice (some ⟨w.heap.size, 0, none⟩) 2 2) (vs2 (.slice av xs.length cv) (.slice au ys.length cu)) (xs2 xs ys) (fun k hk => by unfold xs2; split <;> omega) 0 hc (w.alloc (.cells #[.slice av xs.length cv, .slice au ys.length cu] 31)) hM)
  have HM := Lib.hid (Mixes.two rfl _ _ xs ys L U L' U' hS hS')
  have HG := Lib.hid (fun v L U w hSl => l08Goes_is n p N hlv hp5 hN (subL xs ys) hdl hdb r hr v L U w hSl)
  obtain ⟨gx, ox, rfl, _, hgx, hcx⟩ := hcv (by omega)
  obtain ⟨gy, oy, rfl, _, hgy, hcy⟩ := hcu (by omega)
  have HX := Lib.hid (fun k (hk : k < N) => (hcx k (by omega)).1)
  have HY := Lib.hid (fun k (hk : k < N) => (hcy k (by omega)).1)
  have HB := Lib.hid (And.intro hxb hyb)
  have HL := Lib.hid hxl
  have HDL := Lib.hid hdl
  have hgxw : gx < w.heap.size := by omega
  have hgyw : gy < w.heap.size := by omega
  rw [hxl, hyl] at HC HM ⊢
  clear hl hm hlv hp5 hpp hc hN hr hS hS' hcv hcu hcx hcy hxb hyb hdl hdb hxl hyl
  go_enter Tryd.func23, Tryd.ntmps23
  go_wp2_with fail
  refine (HC.out _ HM.out).mono ?_
  rintro e w2 ⟨rfl, hb2⟩
  have T2 : Below w.heap.size w w2 := own_trans (own_alloc (own_refl w) _) hb2
  go_wp2
  go_loopw [11, 12] (fun q x wr => ∃ (k : Nat) (zs : List Int), k ≤ N ∧ x = (.int .i64 ((k : Int))) ∧ Gr wr w.heap.size q zs ∧ zs.length = k ∧ Hid (∀ j, j < k → gv zs j = gv xs j - gv ys j) ∧ Below w.heap.size w wr) (fun _ x _ => N - (intOf x).toNat)
  case atStart => exact ⟨0, [], Nat.zero_le _, rfl, World.ownsRow_lit w2 #[] 0 T2.size (by unfold maxLen; omega) rfl, rfl, Lib.hid (fun j hj => by omega), own_alloc T2 _⟩
  case round =>
    obtain ⟨k, zs, hk, rfl, hG, hl, HZ, T⟩ := hrel
    obtain ⟨adr, cpr, hv⟩ := hG.shape
    rw [hl] at hv
    subst hv
    have hz := T.size
    by_cases hlt : k < N
    · obtain ⟨x, hx⟩ : ∃ x, gv xs k = x := ⟨_, rfl⟩
      obtain ⟨y, hy⟩ : ∃ y, gv ys k = y := ⟨_, rfl⟩
      have c1 := (T.cell (p := ⟨gx, ox + k, none⟩) hgxw).trans (HX.out k hlt)
      have c2 := (T.cell (p := ⟨gy, oy + k, none⟩) hgyw).trans (HY.out k hlt)
      rw [show xs.getD k 0 = x from hx] at c1
      rw [show ys.getD k 0 = y from hy] at c2
      have hxb := HB.out.1 k
      have hyb := HB.out.2 k
      rw [hx] at hxb
      rw [hy] at hyb
      have hw1 : IntKind.i64.wrap (x - y) = x - y := IntWalk.i64_in _ (by omega)
      have HZ2 : Hid (∀ j, j < k + 1 → gv (zs ++ [x - y]) j = gv xs j - gv ys j) := Lib.hid fun j hj => by
        by_cases e : j = k
        · subst e
          rw [hx, hy]
          simp [gv, List.getD, hl]
        · have := HZ.out j (by omega)
          rw [← this]
          simp [gv, List.getD, List.getElem?_append_left (show j < zs.length by omega)]
      have HGG := Lib.hid hG
      clear hx hy hG
      go_wp2_with fail
      go_region_law (refine step_app64A (by rfl) _ _ (by rfl) w.heap.size (.slice adr k cpr) zs (x - y) (by rfl) (by first | exact (HGG.out.alloc _).drew | exact HGG.out.drew.alloc _) wr.heap.size (by rfl) (by first | exact World.cell?_alloc_at _ _ _ _ rfl) (by omega) (by simp [World.size_alloc]; omega) ?_; intro v' w3 hG3 hb3)
      all_goals
        go_wp2
        go_roundw
        case rel => exact ⟨k + 1, _, by omega, by go_num, hG3, by simp [hl], HZ2, by first | exact Below.trans (own_drew (own_alloc T _)) hb3 | exact Below.trans (own_alloc (own_drew T) _) hb3⟩
        case measure => simp only [intOf]; omega
    · have hkN : k = N := by omega
      subst hkN
      have hzs : zs = subL xs ys := by
        refine List.ext_getElem (hl.trans HDL.out.symm) fun j h1 _ => ?_
        have h2 := HZ.out j (by omega)
        rw [← subL_gv (by rw [HL.out]; omega)] at h2
        simpa [gv, List.getD, h1, show j < (subL xs ys).length by omega] using h2
      subst hzs
      clear hl
      go_wp2_with fail
      refine (HG.out _ _ _ _ hG.sl).mono ?_
      rintro e w3 ⟨rfl, hb3⟩
      go_wp2
      go_ret2
      exact ⟨rfl, own_trans T hb3⟩
set_option maxHeartbeats 2000000 in
theorem clone64_is (b off n c : Nat) (xs : List Int) (hn : xs.length = n) (h0 : 0 < n) (hb : n ≤ 1048576) (w : World) (hc : ∀ k, k < n → w.cell? ⟨b, off + k, none⟩ = some (.int .i64 (xs.getD k 0))) :
    Calls Tryd.prog 50 #[.slice (some ⟨b, off, none⟩) n c] w fun e w' => ∃ g cap, e = .returned (.slice (some ⟨g, 0, none⟩) n cap) ∧ w.heap.size ≤ g ∧ Gr w' w.heap.size (.slice (some ⟨g, 0, none⟩) n cap) xs ∧ Below w.heap.size w w' := by
  obtain ⟨i0, hi, hz0, hz1, hz2⟩ := info_parts info_i64
  have hsome := some_eq ⟨b, off, none⟩ n c
  have A := Lib.hid hc
  have HN := Lib.hid hn
  clear hc hn
  go_enter Tryd.func50, Tryd.ntmps50
  go_wp2_with (at_builtin; refine wpList_append_own _ rfl _ _ 31 rfl w.heap.size 2 i0 (.int .i64 0) 1 8 Tryd.underlying31 hi hz0 hz1 hz2 rfl (by decide) _ _ _ rfl (World.ownsRow_made w #[] 0 (Nat.le_refl _) (Nat.zero_le _) rfl) ⟨b, off, none⟩ n c (xs.map fun x => (.int .i64 x)) rfl ?qc1 ?qc2 ?qc3 ?qc4 ?qc5 ?qc6 ?_)
  case qc1 => simp [HN.out]
  case qc2 =>
    intro j u hj
    have hjn : j < n := by
      have := (List.getElem?_eq_some_iff.1 hj).1
      simpa [HN.out] using this
    rw [Addr.add_lit]
    refine Lib.cell?_alloc_some _ ?_
    rw [A.out j hjn]
    have e : (xs.map fun x => ((.int .i64 x) : Value))[j]? = some ((.int .i64 (xs.getD j 0)) : Value) := by simp [List.getD, List.getElem?_eq_getElem (show j < xs.length by rw [HN.out]; exact hjn)]
    rw [e] at hj
    exact hj
  case qc3 => intro u hu; obtain ⟨x, _, rfl⟩ := List.mem_map.1 hu; rfl
  case qc4 => unfold maxLen; omega
  case qc5 => omega
  case qc6 => simp
  intro v' w1 hown hgrow hnil
  have hG : Gr w1 w.heap.size v' xs := by
    unfold Gr
    rw [HN.out]
    simpa using hown
  have hB : Below w.heap.size w w1 := ((Below.refl _ w).alloc (Nat.le_refl _) _).grown hgrow (by simp) (by intro k hk; simp [Value.ownBlock] at hk; omega)
  obtain ⟨_, hcases⟩ := id hG
  rcases hcases with ⟨rfl, h1⟩ | ⟨g, cap, cur, rfl, hg, _⟩
  · exact absurd (h1.symm.trans HN.out) (by omega)
  rw [HN.out] at hG ⊢
  clear hown hgrow hnil
  go_wp2
  go_ret
  exact ⟨g, cap, rfl, hg, hG, hB⟩
set_option maxHeartbeats 4000000 in
theorem implAe_yes (n : Int) (p N : Nat) (xs ys : List Int) (hc : mpC n p 2 (xs2 xs ys) = 0) (hN : (ln n).length = N) (r : Bool) (hr : r = true ↔ GO p n N (N + N) (gv (subL xs ys))) (v u : Value) (L U L' U' : Nat) (a : Addr) (w : World) (hS : Sl w L U v xs) (hS' : Sl w L' U' u ys) (hid : Idn w) (hmx : MxS w) (hE : ErL w a) :
    Calls Tryd.prog 24 #[(.int .i64 n), (.int .i64 ((p : Int))), v, u] w fun e w' => e = .returned (.tuple #[.bool r, (.int .i64 0)]) ∧ Below w.heap.size w w' := by
  obtain ⟨hl, hm⟩ := mpC_ok hc
  obtain ⟨hlv, p', hpp, hp5⟩ := lpC_0 hl
  obtain rfl : p = p' := by omega
  obtain ⟨hxl, hxb⟩ : xs.length = (ln n).length ∧ ∀ j, -1000000 ≤ gv xs j ∧ gv xs j ≤ 1000000 := hm 0 (by omega)
  obtain ⟨hyl, hyb⟩ : ys.length = (ln n).length ∧ ∀ j, -1000000 ≤ gv ys j ∧ gv ys j ≤ 1000000 := hm 1 (by omega)
  rw [hN] at hxl hyl
  obtain ⟨_, _, h3, h4⟩ := relN hlv
  rw [hN] at h3 h4
  have hdl : (subL xs ys).length = N := by rw [subL_len]; exact hxl
  have hdb : ∀ k, k < N → I64 (gv (subL xs ys) k) := fun k hk => by rw [subL_gv (by omega)]; have := hxb k; have := hyb k; unfold I64; omega
  obtain ⟨zU, av, cv, hv, hcv⟩ := hS
  obtain ⟨zU', au, cu, hu, hcu⟩ := hS'
  subst hv hu
  have hS : Sl w L U (.slice av xs.length cv) xs := ⟨zU, av, cv, rfl, hcv⟩
  have hS' : Sl w L' U' (.slice au ys.length cu) ys := ⟨zU', au, cu, rfl, hcu⟩
  have HC := Lib.hid (fun (w : World) hM => codeModulo_is n p 2 (by omega) (.slice (some ⟨w.heap.size, 0, none⟩) 2 2) (vs2 (.slice av xs.length cv) (.slice au ys.length cu)) (xs2 xs ys) (fun k hk => by unfold xs2; split <;> omega) 0 hc (w.alloc (.cells #[.slice av xs.length cv, .slice au ys.length cu] 31)) hM)
  have HM := Lib.hid (Mixes.two rfl _ _ xs ys L U L' U' hS hS')
  have HSp := Lib.hid (fun w h1 h2 => spanOf_is n hlv p N hp5 hN w h1 h2)
  have HG := Lib.hid (fun E hSP v L U U2 b w hSl hB hE => goes_any p N n E (goS_of hlv hN hp5 hSP) (subL xs ys) hdl hdb r hr v L U U2 b a w hSl hB hE)
  have HI := Lib.hid (And.intro hid (And.intro hmx hE))
  obtain ⟨gx, ox, rfl, _, hgx, hcx⟩ := hcv (by omega)
  obtain ⟨gy, oy, rfl, _, hgy, hcy⟩ := hcu (by omega)
  have HX := Lib.hid (fun k (hk : k < N) => (hcx k (by omega)).1)
  have HY := Lib.hid (fun k (hk : k < N) => (hcy k (by omega)).1)
  have HB := Lib.hid (And.intro hxb hyb)
  have HL := Lib.hid hxl
  have HDL := Lib.hid hdl
  have hgxw : gx < w.heap.size := by omega
  have hgyw : gy < w.heap.size := by omega
  rw [hxl, hyl] at HC HM ⊢
  clear hl hm hlv hp5 hpp hc hN hr hS hS' hcv hcu hcx hcy hxb hyb hdl hdb hxl hyl hid hmx hE
  go_enter Tryd.func24, Tryd.ntmps24
  go_wp2_with fail
  refine (HC.out _ HM.out).mono ?_
  rintro e w2 ⟨rfl, hb2⟩
  have T2 : Below w.heap.size w w2 := own_trans (own_alloc (own_refl w) _) hb2
  go_wp2_with fail
  refine (clone64_is gx ox N cv xs HL.out h4 (by omega) _ (fun k hk => (T2.cell (p := ⟨gx, ox + k, none⟩) hgxw).trans (HX.out k hk))).mono ?_
  rintro e w3 ⟨go, cpr, rfl, hgo', hG3, hb3⟩
  have T3 := own_trans T2 hb3
  have hG0 : Gr w3 w.heap.size (.slice (some ⟨go, 0, none⟩) N cpr) xs := ownsRow_weakZ hG3 T2.size
  have hgo : w.heap.size ≤ go := by have := T2.size; omega
  clear hG3 hgo'
  go_wp2
  go_loopw [26] (fun x wr => ∃ (k : Nat) (zs : List Int), k ≤ N ∧ x = (.int .i64 ((k : Int))) ∧ Gr wr w.heap.size (.slice (some ⟨go, 0, none⟩) N cpr) zs ∧ zs.length = N ∧ Hid (∀ j, j < N → gv zs j = if j < k then gv xs j - gv ys j else gv xs j) ∧ Below w.heap.size w wr) (fun x _ => N - (intOf x).toNat)
  case atStart => exact ⟨0, xs, Nat.zero_le _, rfl, hG0, HL.out, Lib.hid (fun j _ => by rw [if_neg (by omega)]), T3⟩
  case round =>
    clear hG0 T3
    obtain ⟨k, zs, hk, rfl, hG, hzl, HZ, T⟩ := hrel
    by_cases hlt : k < N
    · obtain ⟨c1, f1⟩ := hG.at hlt
      have hz := HZ.out k hlt
      rw [if_neg (by omega)] at hz
      obtain ⟨x, hx⟩ : ∃ x, gv xs k = x := ⟨_, rfl⟩
      obtain ⟨y, hy⟩ : ∃ y, gv ys k = y := ⟨_, rfl⟩
      rw [show zs.getD k 0 = x from hz.trans hx] at c1
      have c2 := (T.cell (p := ⟨gy, oy + k, none⟩) hgyw).trans (HY.out k hlt)
      rw [show ys.getD k 0 = y from hy] at c2
      have hxb := HB.out.1 k
      have hyb := HB.out.2 k
      rw [hx] at hxb
      rw [hy] at hyb
      have hw1 : IntKind.i64.wrap (x - y) = x - y := IntWalk.i64_in _ (by omega)
      have HZ2 : Hid (∀ j, j < N → gv (zs.set k (x - y)) j = if j < k + 1 then gv xs j - gv ys j else gv xs j) := Lib.hid fun q hq => by
        by_cases e1 : q = k
        · subst e1
          rw [if_pos (by omega), hx, hy]
          simp [gv, List.getD, hzl, hq]
        · have := HZ.out q hq
          have e2 : gv (zs.set k (x - y)) q = gv zs q := by simp [gv, List.getD, List.getElem?_set_ne (Ne.symm e1)]
          rw [e2, this]
          by_cases e3 : q < k
          · rw [if_pos e3, if_pos (by omega)]
          · rw [if_neg e3, if_neg (by omega)]
      have HG2 : Hid (Gr (wr.setCell ⟨go, k, none⟩ (.int .i64 (x - y))).drew w.heap.size (.slice (some ⟨go, 0, none⟩) N cpr) (zs.set k (x - y))) := Lib.hid (by
        have := Gr.putZ (k := k) (y := x - y) (show Gr wr w.heap.size (.slice (some ⟨go, 0, none⟩) zs.length cpr) zs by rw [hzl]; exact hG) (by omega)
        rw [hzl] at this
        exact this.drew)
      have HT2 : Hid (Below w.heap.size w (wr.setCell ⟨go, k, none⟩ (.int .i64 (x - y))).drew) := Lib.hid (own_drew (own_setCell T hgo _))
      clear hx hy hz hG T
      go_wp2_with fail
      go_region
      all_goals
        go_wp2
        go_roundw
        case rel => exact ⟨k + 1, _, by omega, by go_num, HG2.out, by simp [hzl], HZ2, HT2.out⟩
        case measure => simp [intOf]; omega
    · have hkN : k = N := by omega
      subst hkN
      have hzs : zs = subL xs ys := by
        refine List.ext_getElem (hzl.trans HDL.out.symm) fun j h1 _ => ?_
        have h2 := HZ.out j (by omega)
        rw [if_pos (by omega), ← subL_gv (by rw [HL.out]; omega)] at h2
        simpa [gv, List.getD, h1, show j < (subL xs ys).length by rw [HDL.out]; omega] using h2
      subst hzs
      clear hzl
      go_wp2_with fail
      refine (HSp.out _ (Rd.below HI.out.1 T) (Rd.below HI.out.2.1 T)).mono ?_
      rintro e w4 ⟨b, E, rfl, hB4, hSP, hb4⟩
      have T4 := own_trans T hb4
      have HSP := Lib.hid hSP
      clear hSP
      go_wp2_with fail
      refine (HG.out E HSP.out _ w.heap.size wr.heap.size _ b _ (hG.sl.own hb4) hB4 (HI.out.2.2.below T4)).mono ?_
      rintro e w5 ⟨rfl, hb5⟩
      go_wp2
      go_ret2
      exact ⟨rfl, own_trans T4 hb5⟩
set_option maxHeartbeats 4000000 in
theorem lawAe_of (n p : Int) (xs ys : List Int) (ad : Option Addr) (cap : Nat) (ad' : Option Addr) (cap' : Nat) (r : Bool) (k : Int) (a : Addr) (hn : xs.length ≤ 1048576) (hn' : ys.length ≤ 1048576)
    (hs : ∀ (v u : Value) (L U L' U' : Nat) (w : World), Sl w L U v xs → Sl w L' U' u ys → Calls Tryd.prog 23 #[(.int .i64 n), (.int .i64 p), v, u] w fun e w' => e = .returned (.tuple #[.bool r, (.int .i64 k)]) ∧ Below w.heap.size w w')
    (hi : ∀ (v u : Value) (L U L' U' : Nat) (w : World), Sl w L U v xs → Sl w L' U' u ys → Idn w → MxS w → ErL w a → Calls Tryd.prog 24 #[(.int .i64 n), (.int .i64 p), v, u] w fun e w' => e = .returned (.tuple #[.bool r, (.int .i64 k)]) ∧ Below w.heap.size w w') (w : World) (hr : Rs w ad xs) (hr' : Rs w ad' ys) (hid : Idn w) (hmx : MxS w) (hE : ErL w a) :
    Calls Tryd.prog 7 #[(.int .i64 n), (.int .i64 p), .slice ad xs.length cap, .slice ad' ys.length cap'] w fun e w' => e = .returned (.bool true) ∧ Below w.heap.size w w' := by
  have HS := Lib.hid hs
  have HI := Lib.hid hi
  have HM := Lib.hid (And.intro hid (And.intro hmx hE))
  have hn1 : (xs.length : Int) ≤ 1048576 := by omega
  have hn1' : (ys.length : Int) ≤ 1048576 := by omega
  clear hs hi hid hmx hE
  go_enter Tryd.func7, Tryd.ntmps7
  go_wp2_with fail
  refine (toS_any ad cap xs hn _ hr).mono ?_
  rintro e w1 ⟨v1, rfl, s1, hb1⟩
  go_wp2_with fail
  refine (toS_any ad' cap' ys hn' _ (hr'.below hb1)).mono ?_
  rintro e w1' ⟨v1', rfl, s1', hb1'⟩
  have T1 : Below w.heap.size w w1' := own_trans hb1 hb1'
  go_wp2_with fail
  refine (HS.out _ _ _ _ _ _ _ (s1.own hb1') s1').mono ?_
  rintro e w2 ⟨rfl, hb2⟩
  have T2 : Below w.heap.size w w2 := own_trans T1 hb2
  go_wp2_with fail
  refine (toS_any ad cap xs hn _ (hr.below T2)).mono ?_
  rintro e w3 ⟨v3, rfl, s3, hb3⟩
  have T3 : Below w.heap.size w w3 := own_trans T2 hb3
  go_wp2_with fail
  refine (toS_any ad' cap' ys hn' _ (hr'.below T3)).mono ?_
  rintro e w4 ⟨v4, rfl, s4, hb4⟩
  have T4 : Below w.heap.size w w4 := own_trans T3 hb4
  have s3' := s3.own hb4
  go_wp2_with fail
  refine (HI.out _ _ _ _ _ _ _ s3' s4 (Rd.below HM.out.1 T4) (Rd.below HM.out.2.1 T4) (HM.out.2.2.below T4)).mono ?_
  rintro e w5 ⟨rfl, hb5⟩
  have q3 := s3'.own hb5
  have q4 := s4.own hb5
  have T5 := own_trans T4 hb5
  go_wp2_with fail
  refine (toS_any ad cap xs hn _ (hr.below T5)).mono ?_
  rintro e w6 ⟨v6, rfl, s6, hb6⟩
  have T6 := own_trans T5 hb6
  go_wp2_with fail
  refine (eqS_same _ _ xs _ _ _ _ _ (by omega) (q3.own hb6) s6).mono ?_
  rintro e w7 ⟨rfl, hb7⟩
  have T7 := own_trans T6 hb7
  go_wp2_with fail
  refine (toS_any ad' cap' ys hn' _ (hr'.below T7)).mono ?_
  rintro e w8 ⟨v8, rfl, s8, hb8⟩
  have T8 := own_trans T7 hb8
  go_wp2_with fail
  refine (eqS_same _ _ ys _ _ _ _ _ (by omega) (((q4.own hb6).own hb7).own hb8) s8).mono ?_
  rintro e w9 ⟨rfl, hb9⟩
  go_wp2
  go_ret
  exact ⟨rfl, own_trans T8 hb9⟩
set_option maxHeartbeats 1000000 in
theorem lawAe_long (n p : Int) (xs ys : List Int) (ad : Option Addr) (cap : Nat) (ad' : Option Addr) (cap' : Nat) (hn : ¬ (xs.length ≤ 1048576 ∧ ys.length ≤ 1048576)) (hx : xs.length ≤ 9223372036854775807) (hy : ys.length ≤ 9223372036854775807) (w : World) :
    Calls Tryd.prog 7 #[(.int .i64 n), (.int .i64 p), .slice ad xs.length cap, .slice ad' ys.length cap'] w fun e w' => e = .returned (.bool true) ∧ Below w.heap.size w w' := by
  by_cases h1 : xs.length ≤ 1048576
  · have hx1 : (xs.length : Int) ≤ 1048576 := by omega
    have hy1 : (1048576 : Int) < (ys.length : Int) := by omega
    clear hn h1
    go_enter Tryd.func7, Tryd.ntmps7
    go_wp2
    go_ret
    exact ⟨rfl, own_refl _⟩
  · have hx1 : (1048576 : Int) < (xs.length : Int) := by omega
    clear hn h1
    go_enter Tryd.func7, Tryd.ntmps7
    go_wp2
    go_ret
    exact ⟨rfl, own_refl _⟩
theorem lawAe_walk (n p : Int) (xs : List Int) (ad : Option Addr) (cap : Nat) (ys : List Int) (ad' : Option Addr) (cap' : Nat) (w : World) (_ : I64 n) (_ : I64 p) (hr : Rs w ad xs) (_ : ∀ x ∈ xs, I64 x) (hn : xs.length ≤ 9223372036854775807) (hr' : Rs w ad' ys) (_ : ∀ x ∈ ys, I64 x) (hn' : ys.length ≤ 9223372036854775807) (hmx : MxS w) (hid : Idn w) (a : Addr) (hE : ErL w a) :
    Calls Tryd.prog 7 #[(.int .i64 n), (.int .i64 p), .slice ad xs.length cap, .slice ad' ys.length cap'] w fun e w' => e = .returned (.bool true) ∧ Below w.heap.size w w' := by
  by_cases h1 : xs.length ≤ 1048576 ∧ ys.length ≤ 1048576
  · by_cases hc : mpC n p 2 (xs2 xs ys) = 0
    · obtain ⟨_, p', rfl, _⟩ := lpC_0 (mpC_ok hc).1
      obtain ⟨r, hg⟩ := go_dec (GO p' n (ln n).length ((ln n).length + (ln n).length) (gv (subL xs ys)))
      exact lawAe_of n p' xs ys ad cap ad' cap' r 0 a h1.1 h1.2 (fun v u L U L' U' w hS hS' => specAe_yes n p' _ xs ys hc rfl r hg v u L U L' U' w hS hS') (fun v u L U L' U' w hS hS' h2 h3 h4 => implAe_yes n p' _ xs ys hc rfl r hg v u L U L' U' a w hS hS' h2 h3 h4) w hr hr' hid hmx hE
    · exact lawAe_of n p xs ys ad cap ad' cap' false _ a h1.1 h1.2 (fun v u L U L' U' w hS hS' => specAe_no n p _ xs ys (by omega) (by omega) rfl hc v u L U L' U' w hS hS') (fun v u L U L' U' w hS hS' _ _ _ => implAe_no n p _ xs ys (by omega) (by omega) rfl hc v u L U L' U' w hS hS') w hr hr' hid hmx hE
  · exact lawAe_long n p xs ys ad cap ad' cap' h1 hn hn' w
end Go.Proofs.YtejghidllochoaaDoor
