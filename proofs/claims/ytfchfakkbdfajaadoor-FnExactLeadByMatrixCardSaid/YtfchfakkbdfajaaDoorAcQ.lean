/- The points met from a point: the model's list. -/
import Derived.Test.YtfchfakkbdfajaaDoorAcP
namespace Go.Proofs.YtfchfakkbdfajaaDoor
open Go.ChangeShapes Go.WideShapes Go.ChangeAt Go.RowKit

/-- which of the numbers below n are in a list -/
def flB (ps : List Int) (n : Nat) : List Value := (List.range n).map fun (j : Nat) => Value.bool (decide ((j : Int) ∈ ps))
theorem flB_at {ps : List Int} {n j : Nat} (h : j < n) : (flB ps n)[j]? = some (.bool (decide ((j : Int) ∈ ps))) := by simp [flB, List.getElem?_range h]
theorem flB_len (ps : List Int) (n : Nat) : (flB ps n).length = n := by simp [flB]
theorem flB_set {ps : List Int} {n j : Nat} : (flB ps n).set j (.bool true) = flB (ps ++ [(j : Int)]) n := by
  apply List.ext_getElem
  · simp [flB]
  · intro i h1 h2
    simp only [flB, List.getElem_set, List.getElem_map, List.getElem_range]
    by_cases e : j = i
    · subst e; simp
    · rw [if_neg e]
      have : ¬ (i : Int) = (j : Int) := by omega
      simp [this]
theorem flB_nil (n : Nat) : flB [] n = (List.replicate n false).map Value.bool := by
  apply List.ext_getElem
  · simp [flB]
  · intro i h1 h2
    simp [flB]
theorem flB_one {n i : Nat} : (flB [] n).set i (.bool true) = flB [(i : Int)] n := flB_set
theorem grownSet (w : World) (p : Addr) (u : Value) : w.grownBy (w.setCell p u) (some p.block) :=
  ⟨rfl, rfl, rfl, by simp [World.setCell], fun k _ hk => Below.heap_setCell w p u k (fun e => hk (by rw [e]))⟩
theorem Gr.far' {w : World} {L : Nat} {v : Value} {xs : List Int} (h : Gr w L v xs) {p : Addr} (hp : v.ownBlock ≠ some p.block) (u : Value) : Gr (w.setCell p u) L v xs := by
  refine World.ownsRow.kept h (grownSet w p u) ?_
  rcases e : v.ownBlock with _ | k
  · exact .inl rfl
  · exact .inr fun he => hp (by rw [e, he])
set_option maxHeartbeats 8000000 in
theorem l10Met_is (a b : Value) (s t : List Int) (n : Nat) (hn : n ≤ 1000000) (hs : Pm s n) (ht : Pm t n) (i : Nat) (hi : i < n) (w : World) (ha : Rl w a s) (hb : Rl w b t) :
    Calls Tryd.prog 79 #[.agg #[a, b], (.int .i64 ((i : Int)))] w fun e w' => ∃ v, e = .returned v ∧ Gr w' w.heap.size v (met s t i n) ∧ Below w.heap.size w w' := by
  have HP := Lib.hid (And.intro hs ht)
  have HW : Hid (metF s t (n + 1 - 0) 0 [(i : Int)] = met s t i n) := Lib.hid rfl
  obtain ⟨g, c, rfl, hg⟩ := ha.at (by rw [hs.len]; omega)
  obtain ⟨g', c', rfl, hg'⟩ := hb.at (by rw [ht.len]; omega)
  have HG := Lib.hid (And.intro hg hg')
  rw [hs.len, ht.len] at *
  have PS1 : PS n [(i : Int)] := PS.one hi
  generalize met s t i n = res at *
  clear hs ht ha hb hg hg'
  have B0 : Box (w.alloc (.cells #[.slice (some ⟨g, 0, none⟩) n c, .slice (some ⟨g', 0, none⟩) n c'] 28)) w.heap.size [.slice (some ⟨g, 0, none⟩) n c, .slice (some ⟨g', 0, none⟩) n c'] := Box.new _ _ _
  have T0 := own_alloc (own_refl w) (.cells #[.slice (some ⟨g, 0, none⟩) n c, .slice (some ⟨g', 0, none⟩) n c'] 28)
  have hsz : (w.alloc (.cells #[.slice (some ⟨g, 0, none⟩) n c, .slice (some ⟨g', 0, none⟩) n c'] 28)).heap.size = w.heap.size + 1 := by simp
  have hmk := mkBools n (by omega)
  go_enter Tryd.func79, Tryd.ntmps79
  go_upto_region 1 with fail
  generalize w.alloc (.cells #[.slice (some ⟨g, 0, none⟩) n c, .slice (some ⟨g', 0, none⟩) n c'] 28) = w0 at *
  obtain ⟨-, c0, c1, -, -⟩ := B0.two
  go_cut [5, 6] (fun v f wx => ∃ gA gF, v = .slice (some ⟨gA, 0, none⟩) 1 1 ∧ f = .slice (some ⟨gF, 0, none⟩) n n ∧ Gr wx (w.heap.size + 1) (.slice (some ⟨gA, 0, none⟩) 1 1) [(i : Int)] ∧ Box wx gF (flB [] n) ∧ gA ≠ gF ∧ w.heap.size + 1 ≤ gF ∧ Below w.heap.size w wx ∧ Box wx w.heap.size [.slice (some ⟨g, 0, none⟩) n c, .slice (some ⟨g', 0, none⟩) n c'])
  case first =>
    have G1 := fun (wx : World) (h : w.heap.size + 1 ≤ wx.heap.size) => show Gr (wx.alloc (.cells #[(.int .i64 ((i : Int)))] 2)) (w.heap.size + 1) (.slice (some ⟨wx.heap.size, 0, none⟩) 1 1) [(i : Int)] from World.ownsRow_lit wx #[(.int .i64 ((i : Int)))] 1 h (by unfold maxLen; omega) rfl
    have HG1 := Lib.hid G1
    clear G1
    have B0' := B0
    have hw0 : w.heap.size + 1 ≤ w0.heap.size := by omega
    go_region
    · go_wp2_with fail
      go_meet
      have GA := HG1.out w0 hw0
      have BX := boxBools (w := w0.alloc (.cells #[(.int .i64 ((i : Int)))] 2)) rfl n
      rw [← flB_nil] at BX
      simp only [World.size_alloc] at BX
      rw [hsz] at GA BX
      exact ⟨_, _, rfl, rfl, Gr.drew (GA.alloc _), Box.drew BX, by omega, by omega, own_drew (own_alloc (own_alloc T0 _) _), Box.drew ((B0'.alloc _).alloc _)⟩
    · go_wp2_with fail
      go_meet
      have GA := HG1.out (w0.alloc (.cells (Array.replicate n (Value.bool false)) 4)) (by simp; omega)
      have BX := boxBools (w := w0) rfl n
      rw [← flB_nil] at BX
      simp only [World.size_alloc] at GA
      rw [hsz] at GA BX
      exact ⟨_, _, rfl, rfl, Gr.drew GA, Box.drew (BX.alloc _), by omega, by omega, own_drew (own_alloc (own_alloc T0 _) _), Box.drew ((B0'.alloc _).alloc _)⟩
  case rest =>
    obtain ⟨gA, gF, rfl, rfl, G, BF, hne, hgF, T, B⟩ := hcut
    obtain ⟨k0, f0⟩ := BF.2 i _ (flB_at hi)
    have BF1 := BF.set i (by rw [flB_len]; exact hi) (.bool true)
    rw [flB_one] at BF1
    have G1 := G.far' (p := ⟨gF, i, none⟩) (by simp [Value.ownBlock]; exact hne) (.bool true)
    have T1 := own_setCell T (p := ⟨gF, i, none⟩) (by simp; omega) (.bool true)
    have B1 := B.far (p := ⟨gF, i, none⟩) (by simp; omega) (.bool true)
    have hnA : (Value.slice (some ⟨gA, 0, none⟩) 1 1).ownBlock ≠ some gF := by simp [Value.ownBlock]; exact hne
    clear B0 T0 hsz c0 c1

    go_wp2
    generalize wc.setCell ⟨gF, i, none⟩ (.bool true) = w1 at *
    clear G BF T B k0 f0 hne
    go_loopw [5, 7] (fun v x wr => ∃ (k : Nat) (ps : List Int), x = (.int .i64 ((k : Int))) ∧ k ≤ ps.length ∧ k ≤ n ∧ PS n ps ∧ Hid (metF s t (n + 1 - k) k ps = res) ∧ Gr wr (w.heap.size + 1) v ps ∧ Box wr gF (flB ps n) ∧ v.ownBlock ≠ some gF ∧ Below w.heap.size w wr ∧
      Box wr w.heap.size [.slice (some ⟨g, 0, none⟩) n c, .slice (some ⟨g', 0, none⟩) n c']) (fun _ x _ => n - (intOf x).toNat)
    case atStart => exact ⟨0, _, rfl, by simp, by omega, PS1, HW, G1, BF1, hnA, T1, B1⟩
    case round =>
      obtain ⟨k, ps, rfl, hkl, hkn, hps, HK, G, BF, hne, T, B⟩ := hrel
      clear G1 T1 B1 BF1 HW hi PS1 hnA w1
      have hpl := hps.le
      obtain ⟨ad, cap, e⟩ := G.shape
      subst e
      by_cases hlt : k < ps.length
      · obtain ⟨gp, rfl, hgp, hgl, hcs⟩ := G.cellsZ (by omega)
        obtain ⟨cp, _⟩ := hcs k hlt
        have hgpF : gp ≠ gF := by simpa [Value.ownBlock] using hne
        obtain ⟨ep, hp⟩ := hps.b.at hlt
        obtain ⟨es, hsx⟩ := HP.out.1.at hp
        obtain ⟨et, htx⟩ := HP.out.2.at hp
        have HK2 : Hid (metF s t (n + 1 - (k + 1)) (k + 1) (adM ps ((pt s (pt ps k) : Nat) : Int) ((pt t (pt ps k) : Nat) : Int) 2) = res) := Lib.hid (by
          have h := HK.out
          rw [show n + 1 - k = (n + 1 - (k + 1)) + 1 by omega, metF, if_pos hlt, es, et] at h
          exact h)
        rw [ep] at cp
        have cS := (HG.out.1.below T).2 (pt ps k) (by rw [HP.out.1.len]; exact hp)
        have cT := (HG.out.2.below T).2 (pt ps k) (by rw [HP.out.2.len]; exact hp)
        rw [es] at cS
        rw [et] at cT
        obtain ⟨-, c0, c1, -, -⟩ := B.two
        generalize pt ps k = p at *
        generalize pt s p = x at *
        generalize pt t p = y at *
        clear hcs HK es et ep
        have HN : Hid (k < ps.length ∧ k < n) := Lib.hid ⟨hlt, by omega⟩
        have HX := Lib.hid (And.intro hsx htx)
        clear hsx htx hpl
        generalize hN : ps.length = N at *
        have HNL := Lib.hid hN
        clear hN
        go_upto_region 6 with fail
        go_cut [41, 42, 43] (fun q l z wx => ∃ gB, q = .slice (some ⟨gB, 0, none⟩) 2 2 ∧ l = (.int .i64 2) ∧ z = (.int .i64 0) ∧ Gr wx (w.heap.size + 1) (.slice (some ⟨gp, 0, none⟩) N cap) ps ∧ Box wx gF (flB ps n) ∧ gp ≠ gB ∧ gB ≠ gF ∧ w.heap.size < gB ∧ Below w.heap.size w wx ∧ Box wx w.heap.size [.slice (some ⟨g, 0, none⟩) n c, .slice (some ⟨g', 0, none⟩) n c'] ∧ Box wx gB [(.int .i64 ((x : Int))), (.int .i64 ((y : Int)))])
        case first =>
          go_region
          all_goals
            go_wp2_with fail
            go_meet
            have b1 := BF.1
            have b2 := B.1
            exact ⟨_, rfl, rfl, rfl, Gr.drew (G.alloc _), Box.drew (BF.alloc _), by omega, by omega, by omega, own_drew (own_alloc T _), Box.drew (B.alloc _), Box.drew (Box.new _ _ _)⟩
        case rest =>
          clear G BF T B c0 c1 cp cS cT hgl hgp hne
          obtain ⟨gB, rfl, rfl, rfl, G, BF, hgp, hgBF, hgB, T, B, BQ⟩ := hcut
          have hneB : ∀ b, (Value.slice (some ⟨gp, 0, none⟩) N cap).ownBlock = some b → b ≠ gB ∧ b ≠ gF := fun b hb => by
            simp only [Value.ownBlock, Option.some.injEq] at hb
            subst hb
            exact ⟨hgp, hgpF⟩
          go_wp2_with fail
          go_loopw [5, 43] (fun v z wr => ∃ m : Nat, z = (.int .i64 ((m : Int))) ∧ m ≤ 2 ∧ PS n (adM ps x y m) ∧ Gr wr (w.heap.size + 1) v (adM ps x y m) ∧ (∀ b, v.ownBlock = some b → b ≠ gB ∧ b ≠ gF) ∧ Below w.heap.size w wr ∧ Box wr gF (flB (adM ps x y m) n) ∧ Box wr gB [(.int .i64 ((x : Int))), (.int .i64 ((y : Int)))] ∧
            Box wr w.heap.size [.slice (some ⟨g, 0, none⟩) n c, .slice (some ⟨g', 0, none⟩) n c']) (fun _ z _ => 2 - (intOf z).toNat)
          case atStart => exact ⟨0, rfl, by omega, hps, G, hneB, T, BF, BQ, B⟩
          case round =>
            obtain ⟨m, rfl, hm, hps2, G, hne, T, BF, BQ, B⟩ := hrel
            obtain ⟨ad, cap, e⟩ := G.shape
            subst e
            have hpl2 := hps2.le
            by_cases hm2 : m < 2
            · have hz : ∃ z : Nat, z < n ∧ wr.cell? ⟨gB, m, none⟩ = some (.int .i64 ((z : Int))) ∧ Hid (adM ps x y (m + 1) = addP (adM ps x y m) z) := by
                rcases (show m = 0 ∨ m = 1 by omega) with rfl | rfl
                · exact ⟨x, HX.out.1, (BQ.2 0 _ rfl).1, Lib.hid rfl⟩
                · exact ⟨y, HX.out.2, (BQ.2 1 _ rfl).1, Lib.hid rfl⟩
              obtain ⟨z, hzn, cz, HA⟩ := hz
              have hps3 : PS n (adM ps x y (m + 1)) := by rw [HA.out]; exact hps2.add hzn
              have HPS := Lib.hid hps3
              clear hps3
              obtain ⟨qs, hq⟩ : ∃ qs, adM ps x y m = qs := ⟨_, rfl⟩
              rw [hq] at G hps2 hpl2 HA hne BF ⊢
              have HQ := Lib.hid hq
              obtain ⟨cF, fF⟩ := BF.2 z _ (flB_at hzn)
              rcases hb : decide ((z : Int) ∈ qs) with _ | _
              · rw [hb] at cF
                have HA2 : Hid (adM ps x y (m + 1) = qs ++ [(z : Int)]) := Lib.hid (by rw [HA.out, addP, if_neg (of_decide_eq_false hb)])
                have hneq : (Value.slice ad qs.length cap).ownBlock ≠ some gF := fun h => (hne gF h).2 rfl
                have hneq2 : (Value.slice ad qs.length cap).ownBlock ≠ some gB := fun h => (hne gB h).1 rfl
                have hneq3 : (Value.slice ad qs.length cap).ownBlock ≠ some w.heap.size := fun h => by have := (G.lt _ h).1; omega
                have G4 := G.far' (p := ⟨gF, z, none⟩) hneq (.bool true)
                have T4 := own_setCell T (p := ⟨gF, z, none⟩) (by simp; omega) (.bool true)
                have B4 := B.far (p := ⟨gF, z, none⟩) (by simp; omega) (.bool true)
                have BQ4 := BQ.far (p := ⟨gF, z, none⟩) (by simp; omega) (.bool true)
                have BF4 := BF.set z (by rw [flB_len]; exact hzn) (.bool true)
                rw [flB_set] at BF4
                clear hb
                go_upto_region 11 with fail
                generalize wr.setCell ⟨gF, z, none⟩ (.bool true) = w4 at *
                have hwz : w.heap.size + 1 ≤ w4.heap.size := by have := B4.1; omega
                go_wp2_with (at_builtin; refine app64At rfl _ _ rfl (w.heap.size + 1) w4 (.slice ad qs.length cap) qs (z : Int) rfl G4 w4.heap.size rfl rfl (by omega) hwz ?_; intro v' w5 G5 hgr5 hat5 hb5)
                go_roundw
                case rel =>
                  refine ⟨m + 1, by go_num, by omega, HPS.out, by rw [HA2.out]; exact G5, fun b hb => ?_, T4.trans (hb5.mono (by omega)), by rw [HA2.out]; exact BF4.grown hgr5 hneq, BQ4.grown hgr5 hneq2, B4.grown hgr5 hneq3⟩
                  rcases hat5 with h | h
                  · rw [h] at hb; exact hne b hb
                  · rw [h] at hb
                    injection hb with hb
                    have := BQ4.1
                    have := BF4.1
                    omega
                case measure => simp [intOf]; omega
              · rw [hb] at cF
                have HA2 : Hid (adM ps x y (m + 1) = qs) := Lib.hid (by rw [HA.out, addP, if_pos (of_decide_eq_true hb)])
                clear hb
                go_wp2
                go_roundw
                case rel => exact ⟨m + 1, by go_num, by omega, HPS.out, by rw [HA2.out]; exact G, hne, T, by rw [HA2.out]; exact BF, BQ, B⟩
                case measure => simp [intOf]; omega
            · obtain rfl : m = 2 := by omega
              have HL : Hid (k + 1 ≤ (adM ps x y 2).length) := Lib.hid (by
                have h1 := addP_len ps x
                have h2 := addP_len (addP ps x) y
                have h3 := HN.out.1
                have h4 := HNL.out
                show k + 1 ≤ (addP (addP ps x) y).length
                omega)
              have hneF : (Value.slice ad (adM ps x y 2).length cap).ownBlock ≠ some gF := fun h => (hne gF h).2 rfl
              go_wp2
              go_roundw
              case rel => exact ⟨k + 1, _, by go_num, HL.out, HN.out.2, hps2, HK2, G, BF, hneF, T, B⟩
              case measure => simp [intOf]; have := HN.out.2; omega
      · have HR : Hid (ps = res) := Lib.hid (by
          have h := HK.out
          rw [show n + 1 - k = (n - k) + 1 by omega, metF, if_neg hlt] at h
          exact h)
        go_wp2
        go_ret
        exact ⟨_, rfl, by rw [← HR.out]; exact G.weakL (by omega), T⟩
end Go.Proofs.YtfchfakkbdfajaaDoor
