/- The points met from a point: the program's list. -/
import Derived.Test.YtfchfakkbdfajaaDoorAcL
import Derived.Maps.AppendAt
namespace Go.Proofs.YtfchfakkbdfajaaDoor
open Go.ChangeShapes Go.WideShapes Go.ChangeAt Go.RowKit

/-- 'xs = append(xs, y)', and where the new slice lies. -/
theorem app64At {ops : Array Oper} {rest : List Oper} {o : Oper} {a : Act} {Q : Exit → Act → World → Prop} (hgd : o.guard = none) (s x : Operand)
    (ho : o.op = .call { callee := .builtin .append, args := #[s, x], argTypes := #[22, 22] })
    (L : Nat) (w : World) (v : Value) (xs : List Int) (y : Int) (hs : a.eval s = v) (hown : Gr w L v xs) (g : Nat) (hx : a.eval x = .slice (some ⟨g, 0, none⟩) 1 1)
    (hg : w.heap.size = g) (hlen : xs.length ≤ 9000000000) (hL : L ≤ w.heap.size)
    (h : ∀ v' w', Gr w' L v' (xs ++ [y]) → w.grownBy w' v.ownBlock → (v'.ownBlock = v.ownBlock ∨ v'.ownBlock = some (w.heap.size + 1)) → Below L w w' → wpList Tryd.prog ops Q rest (a.put o.dst v') w') : wpList Tryd.prog ops Q (o :: rest) a (w.alloc (.cells #[(.int .i64 y)] 2)) := by
  obtain ⟨i0, hi, hz0, hz1, hz2⟩ := info_parts info_i64
  subst hg
  refine wpList_append_own_at _ hgd s x 22 ho L 2 i0 (.int .i64 0) 1 8 Tryd.underlying22 hi hz0 hz1 hz2 rfl (by decide) v xs.length _ hs (Gr.alloc hown _) ⟨w.heap.size, 0, none⟩ 1 1 [(.int .i64 y)] hx rfl ?_ ?_ ?_ ?_ ?_ ?_
  · intro j u hj
    match j, hj with
    | 0, hj => simp at hj; subst hj; simp [Addr.add]
  · intro u hu; simp at hu; subst hu; rfl
  · unfold maxLen; omega
  · omega
  · simp; omega
  · intro v' w' hown' hgrow _ hat
    refine h v' w' ?_ ?_ (by simpa using hat) ?_
    · have e : (xs ++ [y]).length = xs.length + 1 := by simp
      unfold Gr
      rw [e, List.map_append]
      exact hown'
    · exact World.grownBy.trans (b := w.alloc (.cells #[(.int .i64 y)] 2)) ⟨rfl, rfl, rfl, by simp, fun k hk _ => Below.heap_alloc _ _ _ hk⟩ hgrow
    · have hb : Below L w (w.alloc (.cells #[(.int .i64 y)] 2)) := (Below.refl L w).alloc hL _
      exact hb.grown hgrow (by simp; omega) (fun j hj => (hown.lt j hj).1)
theorem Box.grown {w w' : World} {g : Nat} {xs : List Value} {row : Option Nat} (h : Box w g xs) (hg : w.grownBy w' row) (hr : row ≠ some g) : Box w' g xs := by
  have hb := hg.5 g h.1 (fun e => hr e.symm)
  refine ⟨Nat.lt_of_lt_of_le h.1 hg.4, fun i v hv => ⟨?_, ?_⟩⟩
  · exact (World.cell?_of_block (w := w) (a := ⟨g, i, none⟩) hb).trans (h.2 i v hv).1
  · exact (World.frozen?_of_block (w := w) (a := ⟨g, i, none⟩) hb).trans (h.2 i v hv).2
set_option maxHeartbeats 1000000 in
theorem indexAny_is (v : Value) (xs : List Int) (n : Nat) (hn : n ≤ 1000000) (hx : xs.length = n) (y : Int) (w : World) (h : Rl w v xs) :
    Calls Tryd.prog 91 #[v, (.int .i64 y)] w fun e w' => ∃ r : Int, e = .returned (.int .i64 r) ∧ (decide (0 ≤ r) = decide (y ∈ xs)) ∧ -1 ≤ r ∧ r ≤ 1000000 ∧ Below w.heap.size w w' := by
  obtain ⟨ad, cap, rfl, hr⟩ := h
  have HR := Lib.hid hr
  have HX := Lib.hid hx
  rw [hx]
  clear hr hx
  go_enter Tryd.func91, Tryd.ntmps91
  go_wp2
  go_loopw [8] (fun i wr => ∃ k : Nat, k ≤ n ∧ i = (.int .i64 ((k : Int))) ∧ Hid (∀ j, j < k → xs.getD j 0 ≠ y) ∧ Below w.heap.size w wr) (fun i _ => n - (intOf i).toNat)
  case atStart => exact ⟨0, Nat.zero_le _, rfl, Lib.hid (fun j h => absurd h (Nat.not_lt_zero _)), own_refl _⟩
  case round =>
    obtain ⟨k, hk, rfl, HJ, T⟩ := hrel
    by_cases hkn : k < n
    · have hkx : k < xs.length := by rw [HX.out]; exact hkn
      obtain ⟨g, rfl, hg⟩ := HR.out (by omega)
      have c1 := (hg.below T).2 k hkx
      by_cases e : y = xs.getD k 0
      · have HM : Hid (decide (0 ≤ (k : Int)) = decide (y ∈ xs)) := Lib.hid (by
          rw [decide_eq_true (by omega), decide_eq_true (by rw [e]; exact getD_mem hkx)])
        rw [← e] at c1
        clear e hg hkx
        go_wp2
        go_ret
        exact ⟨(k : Int), rfl, HM.out, by omega, by omega, T⟩
      · have HJ2 : Hid (∀ j, j < k + 1 → xs.getD j 0 ≠ y) := Lib.hid (fun j hj => by
          by_cases h2 : j < k
          · exact HJ.out j h2
          · have : j = k := by omega
            rw [this]
            exact fun h3 => e h3.symm)
        obtain ⟨z, hz⟩ : ∃ z, xs.getD k 0 = z := ⟨_, rfl⟩
        rw [hz] at c1 e
        clear hz hg hkx
        go_wp2
        go_roundw
        case rel => exact ⟨k + 1, by omega, by go_num, HJ2, T⟩
        case measure => simp [intOf]; omega
    · have HM : Hid (decide (0 ≤ (-1 : Int)) = decide (y ∈ xs)) := Lib.hid (by
        rw [decide_eq_false (by omega), decide_eq_false]
        intro hm
        obtain ⟨j, hj, e⟩ := List.getElem_of_mem hm
        exact HJ.out j (by have := HX.out; omega) (by simp [List.getD, hj, e]))
      go_wp2
      go_ret
      exact ⟨-1, rfl, HM.out, by omega, by omega, T⟩
theorem contains_is (v : Value) (xs : List Int) (n : Nat) (hn : n ≤ 1000000) (hx : xs.length = n) (y : Int) (b : Bool) (hb : decide (y ∈ xs) = b) (w : World) (h : Rl w v xs) :
    Calls Tryd.prog 80 #[v, (.int .i64 y)] w fun e w' => e = .returned (.bool b) ∧ Below w.heap.size w w' := by
  have HI := Lib.hid (indexAny_is v xs n hn hx y w h)
  obtain ⟨ad, cap, rfl, _⟩ := h
  have HB := Lib.hid hb
  rw [hx] at *
  clear hx hb
  go_enter Tryd.func80, Tryd.ntmps80
  go_wp2_with fail
  refine HI.out.mono ?_
  rintro e w2 ⟨r, rfl, hr, r1, r2, hb2⟩
  have HR := Lib.hid (hr.trans HB.out)
  clear hr
  go_wp2
  go_ret
  exact ⟨ret_bool HR.out, hb2⟩
/-- the points behind none, one or both of two further ones -/
def adM (ps : List Int) (x y : Int) : Nat → List Int
  | 0 => ps
  | 1 => addP ps x
  | _ => addP (addP ps x) y
set_option maxHeartbeats 8000000 in
theorem points_is (a b : Value) (s t : List Int) (n : Nat) (hn : n ≤ 1000000) (hs : Pm s n) (ht : Pm t n) (i : Nat) (hi : i < n) (w : World) (ha : Rl w a s) (hb : Rl w b t) :
    Calls Tryd.prog 55 #[.agg #[a, b], (.int .i64 ((i : Int)))] w fun e w' => ∃ v, e = .returned v ∧ Gr w' w.heap.size v (met s t i n) ∧ Below w.heap.size w w' := by
  have HS := Lib.hid (fun i (hi : i < n) w' (h : Below w.heap.size w w') => byS_is a b s t n hs ht i hi w' (ha.below h) (hb.below h))
  have HT := Lib.hid (fun i (hi : i < n) w' (h : Below w.heap.size w w') => byT_is a b s t n hs ht i hi w' (ha.below h) (hb.below h))
  have HP := Lib.hid (And.intro hs ht)
  have HW : Hid (metF s t (n + 1 - 0) 0 [(i : Int)] = met s t i n) := Lib.hid rfl
  obtain ⟨g, c, rfl, _⟩ := ha.at (by rw [hs.len]; omega)
  obtain ⟨g', c', rfl, _⟩ := hb.at (by rw [ht.len]; omega)
  rw [hs.len, ht.len] at *
  have PS1 : PS n [(i : Int)] := PS.one hi
  generalize met s t i n = res at *
  clear hs ht ha hb
  have B0 : Box (w.alloc (.cells #[.slice (some ⟨g, 0, none⟩) n c, .slice (some ⟨g', 0, none⟩) n c'] 28)) w.heap.size [.slice (some ⟨g, 0, none⟩) n c, .slice (some ⟨g', 0, none⟩) n c'] := Box.new _ _ _
  have T0 := own_alloc (own_refl w) (.cells #[.slice (some ⟨g, 0, none⟩) n c, .slice (some ⟨g', 0, none⟩) n c'] 28)
  have hsz : (w.alloc (.cells #[.slice (some ⟨g, 0, none⟩) n c, .slice (some ⟨g', 0, none⟩) n c'] 28)).heap.size = w.heap.size + 1 := by simp
  go_enter Tryd.func55, Tryd.ntmps55
  go_wp2_with fail
  generalize w.alloc (.cells #[.slice (some ⟨g, 0, none⟩) n c, .slice (some ⟨g', 0, none⟩) n c'] 28) = w0 at *
  have G1 : Gr (w0.alloc (.cells #[(.int .i64 ((i : Int)))] 2)) (w.heap.size + 1) (.slice (some ⟨w0.heap.size, 0, none⟩) 1 1) [(i : Int)] := World.ownsRow_lit w0 #[(.int .i64 ((i : Int)))] 1 (by omega) (by unfold maxLen; omega) rfl
  have T1 := own_alloc T0 (.cells #[(.int .i64 ((i : Int)))] 2)
  have B1 := B0.alloc (.cells #[(.int .i64 ((i : Int)))] 2)
  rw [hsz] at G1
  clear hsz B0 T0
  generalize w0.alloc (.cells #[(.int .i64 ((i : Int)))] 2) = w1 at *
  go_loopw [5, 6] (fun v x wr => ∃ (k : Nat) (ps : List Int), x = (.int .i64 ((k : Int))) ∧ k ≤ ps.length ∧ k ≤ n ∧ PS n ps ∧ Hid (metF s t (n + 1 - k) k ps = res) ∧ Gr wr (w.heap.size + 1) v ps ∧ Below w.heap.size w wr ∧
    Box wr w.heap.size [.slice (some ⟨g, 0, none⟩) n c, .slice (some ⟨g', 0, none⟩) n c']) (fun _ x _ => n - (intOf x).toNat)
  case atStart => exact ⟨0, _, rfl, by simp, by omega, PS1, HW, G1, T1, B1⟩
  case round =>
    obtain ⟨k, ps, rfl, hkl, hkn, hps, HK, G, T, B⟩ := hrel
    clear G1 T1 B1 HW hi PS1
    have hpl := hps.le
    obtain ⟨ad, cap, e⟩ := G.shape
    subst e
    by_cases hlt : k < ps.length
    · obtain ⟨gp, rfl, hgp, hgl, hcs⟩ := G.cellsZ (by omega)
      obtain ⟨cp, _⟩ := hcs k hlt
      obtain ⟨ep, hp⟩ := hps.b.at hlt
      obtain ⟨es, hsx⟩ := HP.out.1.at hp
      obtain ⟨et, htx⟩ := HP.out.2.at hp
      have HK2 : Hid (metF s t (n + 1 - (k + 1)) (k + 1) (adM ps ((pt s (pt ps k) : Nat) : Int) ((pt t (pt ps k) : Nat) : Int) 2) = res) := Lib.hid (by
        have h := HK.out
        rw [show n + 1 - k = (n + 1 - (k + 1)) + 1 by omega, metF, if_pos hlt, es, et] at h
        exact h)
      rw [ep] at cp
      have HSx := Lib.hid (HS.out _ hp)
      have HTx := Lib.hid (HT.out _ hp)
      obtain ⟨-, c0, c1, -, -⟩ := B.two
      generalize pt ps k = p at *
      generalize pt s p = x at *
      generalize pt t p = y at *
      clear hcs HK es et ep HS HT
      have HN : Hid (k < ps.length ∧ k < n) := Lib.hid ⟨hlt, by omega⟩
      have HX := Lib.hid (And.intro hsx htx)
      clear hsx htx hpl
      generalize hN : ps.length = N at *
      have HNL := Lib.hid hN
      clear hN
      go_wp2_with fail
      go_region_held3 (fun w' => w'.cell? ⟨w.heap.size, 0, none⟩ = some (.slice (some ⟨g, 0, none⟩) n c) ∧ w'.cell? ⟨w.heap.size, 1, none⟩ = some (.slice (some ⟨g', 0, none⟩) n c') ∧ w'.cell? ⟨gp, k, none⟩ = some (.int .i64 ((p : Int)))) (go_keep)
        (first
          | (go_at_call 74; (with_reducible refine (HTx.out _ (own_drew T1)).mono ?_); rintro e w2 ⟨rfl, hb2⟩; have T2 := own_trans (own_drew T1) hb2; have B2 := (B1.drew).below hb2; have G2 := (G1.drew).own hb2; have e2 := (hb2.cell (p := ⟨gp, k, none⟩) l1).trans e1; obtain ⟨-, c20, c21, -, -⟩ := B2.two; clear hb2)
          | (go_at_call 74; (with_reducible refine (HTx.out _ T1).mono ?_); rintro e w2 ⟨rfl, hb2⟩; have T2 := own_trans T1 hb2; have B2 := B1.below hb2; have G2 := G1.own hb2; have e2 := (hb2.cell (p := ⟨gp, k, none⟩) l1).trans e1; obtain ⟨-, c20, c21, -, -⟩ := B2.two; clear hb2)
          | (go_at_call 46; (with_reducible refine (HSx.out _ (own_drew U1)).mono ?_); rintro e w2 ⟨rfl, hb2⟩; have T2 := own_trans (own_drew U1) hb2; have B2 := (V1.drew).below hb2; have G2 := (H1.drew).own hb2; have e2 := (hb2.cell (p := ⟨gp, k, none⟩) l1).trans e1; obtain ⟨-, c20, c21, -, -⟩ := B2.two; clear hb2)
          | (go_at_call 46; (with_reducible refine (HSx.out _ U1).mono ?_); rintro e w2 ⟨rfl, hb2⟩; have T2 := own_trans U1 hb2; have B2 := V1.below hb2; have G2 := H1.own hb2; have e2 := (hb2.cell (p := ⟨gp, k, none⟩) l1).trans e1; obtain ⟨-, c20, c21, -, -⟩ := B2.two; clear hb2)
          | (go_at_call 46; (with_reducible refine (HSx.out _ (own_drew T)).mono ?_); rintro e w1 ⟨rfl, hb1⟩; have T1 := own_trans (own_drew T) hb1; have B1 := (B.drew).below hb1; have G1 := (G.drew).own hb1; have l1 : gp < w1.heap.size := Nat.lt_of_lt_of_le hgl hb1.size; have e1 := (hb1.cell (p := ⟨gp, k, none⟩) hgl).trans cp; obtain ⟨-, c10, c11, -, -⟩ := B1.two; clear hb1)
          | (go_at_call 74; (with_reducible refine (HTx.out _ (own_drew T)).mono ?_); rintro e w1 ⟨rfl, hb1⟩; have U1 := own_trans (own_drew T) hb1; have V1 := (B.drew).below hb1; have H1 := (G.drew).own hb1; have l1 : gp < w1.heap.size := Nat.lt_of_lt_of_le hgl hb1.size; have e1 := (hb1.cell (p := ⟨gp, k, none⟩) hgl).trans cp; obtain ⟨-, c10, c11, -, -⟩ := V1.two; clear hb1))
      all_goals
        have BQ : Box (w2.alloc (.cells #[(.int .i64 ((x : Int))), (.int .i64 ((y : Int)))] 2)) w2.heap.size [(.int .i64 ((x : Int))), (.int .i64 ((y : Int)))] := Box.new _ _ _
        have GQ := G2.alloc (.cells #[(.int .i64 ((x : Int))), (.int .i64 ((y : Int)))] 2)
        have TQ := own_alloc T2 (.cells #[(.int .i64 ((x : Int))), (.int .i64 ((y : Int)))] 2)
        have B3 := B2.alloc (.cells #[(.int .i64 ((x : Int))), (.int .i64 ((y : Int)))] 2)
        have hne : ∀ b, (Value.slice (some ⟨gp, 0, none⟩) N cap).ownBlock = some b → b ≠ w2.heap.size := fun b hb => by have := (G2.lt b hb).2; omega
        have hgb : w.heap.size < w2.heap.size := B2.1
        clear B G T B2 G2 T2 e1 e2 cp l1 hgl hgp c0 c1 c10 c11 c20 c21 hlt hkl
        try clear B1 G1 T1
        try clear V1 H1 U1
        generalize w2.alloc (.cells #[(.int .i64 ((x : Int))), (.int .i64 ((y : Int)))] 2) = w3 at *
        generalize w2.heap.size = gB at *
        clear w2
        go_wp2_with fail
        go_loopw [5, 31] (fun v z wr => ∃ m : Nat, z = (.int .i64 ((m : Int))) ∧ m ≤ 2 ∧ PS n (adM ps x y m) ∧ Gr wr (w.heap.size + 1) v (adM ps x y m) ∧ (∀ b, v.ownBlock = some b → b ≠ gB) ∧ Below w.heap.size w wr ∧ Box wr gB [(.int .i64 ((x : Int))), (.int .i64 ((y : Int)))] ∧
          Box wr w.heap.size [.slice (some ⟨g, 0, none⟩) n c, .slice (some ⟨g', 0, none⟩) n c']) (fun _ z _ => 2 - (intOf z).toNat)
        case atStart => exact ⟨0, rfl, by omega, hps, GQ, hne, TQ, BQ, B3⟩
        case round =>
          obtain ⟨m, rfl, hm, hps2, G, hne, T, BQ, B⟩ := hrel
          clear GQ TQ B3
          obtain ⟨ad, cap, e⟩ := G.shape
          subst e
          have hpl2 := hps2.le
          by_cases hm2 : m < 2
          · have hz : ∃ z : Nat, z < n ∧ wr.cell? ⟨gB, m, none⟩ = some (.int .i64 ((z : Int))) ∧ Hid (adM ps x y (m + 1) = addP (adM ps x y m) z) := by
              rcases (show m = 0 ∨ m = 1 by omega) with rfl | rfl
              · exact ⟨x, HX.out.1, (BQ.2 0 _ rfl).1, Lib.hid rfl⟩
              · exact ⟨y, HX.out.2, (BQ.2 1 _ rfl).1, Lib.hid rfl⟩
            obtain ⟨z, hzn, cz, HA⟩ := hz
            have hps3 : PS n (adM ps x y (m + 1)) := by rw [HA.out]; exact hps2.add hzn
            have HPS := Lib.hid hps3
            clear hps3
            obtain ⟨qs, hq⟩ : ∃ qs, adM ps x y m = qs := ⟨_, rfl⟩
            rw [hq] at G hps2 hpl2 HA hne
            have HQ := Lib.hid hq
            rcases hb : decide ((z : Int) ∈ qs) with _ | _
            · have HC := Lib.hid (contains_is _ qs _ (by omega) rfl (z : Int) false hb wr G.rl)
              have HA2 : Hid (adM ps x y (m + 1) = qs ++ [(z : Int)]) := Lib.hid (by rw [HA.out, addP, if_neg (of_decide_eq_false hb)])
              clear hb
              go_wp2_with fail
              refine HC.out.mono ?_
              rintro e w4 ⟨rfl, hb4⟩
              have G4 := G.own hb4
              have BQ4 := BQ.below hb4
              have B4 := B.below hb4
              have T4 := own_trans T hb4
              have hz4 := hb4.size
              have hne4 : (Value.slice ad qs.length cap).ownBlock ≠ some gB := fun h => hne gB h rfl
              have hwz : w.heap.size + 1 ≤ w4.heap.size := by have := B4.1; omega
              have hwo : (Value.slice ad qs.length cap).ownBlock ≠ some w.heap.size := fun h => by have := (G4.lt _ h).1; omega
              clear hb4
              go_upto_region 9 with fail
              go_wp2_with (at_builtin; refine app64At rfl _ _ rfl (w.heap.size + 1) w4 (.slice ad qs.length cap) qs (z : Int) rfl G4 w4.heap.size rfl rfl (by omega) hwz ?_; intro v' w5 G5 hgr5 hat5 hb5)
              go_roundw
              case rel =>
                refine ⟨m + 1, by go_num, by omega, HPS.out, by rw [HA2.out]; exact G5, fun b hb he => ?_, T4.trans (hb5.mono (by omega)), BQ4.grown hgr5 hne4, B4.grown hgr5 hwo⟩
                subst he
                rcases hat5 with h | h
                · rw [h] at hb; exact hne4 hb
                · rw [h] at hb
                  injection hb with hb
                  have := BQ4.1
                  omega
              case measure => simp [intOf]; omega
            · have HC := Lib.hid (contains_is _ qs _ (by omega) rfl (z : Int) true hb wr G.rl)
              have HA2 : Hid (adM ps x y (m + 1) = qs) := Lib.hid (by rw [HA.out, addP, if_pos (of_decide_eq_true hb)])
              clear hb
              go_wp2_with fail
              refine HC.out.mono ?_
              rintro e w4 ⟨rfl, hb4⟩
              have G4 := G.own hb4
              have BQ4 := BQ.below hb4
              have B4 := B.below hb4
              have T4 := own_trans T hb4
              clear hb4
              go_wp2
              go_roundw
              case rel => exact ⟨m + 1, by go_num, by omega, HPS.out, by rw [HA2.out]; exact G4, hne, T4, BQ4, B4⟩
              case measure => simp [intOf]; omega
          · obtain rfl : m = 2 := by omega
            have HL : Hid (k + 1 ≤ (adM ps x y 2).length) := Lib.hid (by
              have h1 := addP_len ps x
              have h2 := addP_len (addP ps x) y
              have h3 := HN.out.1
              have h4 := HNL.out
              show k + 1 ≤ (addP (addP ps x) y).length
              omega)
            go_wp2
            go_roundw
            case rel => exact ⟨k + 1, _, by go_num, HL.out, HN.out.2, hps2, HK2, G, T, B⟩
            case measure => simp [intOf]; have := HN.out.2; omega
    · have HR : Hid (ps = res) := Lib.hid (by
        have h := HK.out
        rw [show n + 1 - k = (n - k) + 1 by omega, metF, if_neg hlt] at h
        exact h)
      go_wp2
      go_ret
      exact ⟨_, rfl, by rw [← HR.out]; exact G.weakL (by omega), T⟩
end Go.Proofs.YtfchfakkbdfajaaDoor
