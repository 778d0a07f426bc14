/- Normal pairs: contracts of the program's levelOf and normal. -/
import Derived.Test.YtdcomnnpnhinfaaDoorNm
namespace Go.Proofs.YtdcomnnpnhinfaaDoor
open Go.ChangeShapes Go.WideShapes Go.ChangeAt Go.RowKit

/-- block g reads as xs from off on -/
def Cs (w : World) (g off : Nat) (xs : List Int) : Prop := g < w.heap.size ∧ ∀ k, k < xs.length → w.cell? ⟨g, off + k, none⟩ = some (.int .i64 (xs.getD k 0))
theorem Cs.low {w w' : World} {g off L : Nat} {xs : List Int} (h : Cs w g off xs) (hb : Below L w w') (hg : g < L) : Cs w' g off xs :=
  ⟨Nat.lt_of_lt_of_le h.1 hb.size, fun k hk => (hb.cell (p := ⟨g, off + k, none⟩) hg).trans (h.2 k hk)⟩
theorem Cs.below {w w' : World} {g off : Nat} {xs : List Int} (h : Cs w g off xs) (hb : Below w.heap.size w w') : Cs w' g off xs := h.low hb h.1
theorem Cs.set {w : World} {g off : Nat} {xs : List Int} (h : Cs w g off xs) {p : Addr} (hp : g ≠ p.block) (u : Value) : Cs (w.setCell p u) g off xs :=
  ⟨by simpa [World.setCell] using h.1, fun k hk => (World.cell?_of_block (w := w) (a := ⟨g, off + k, none⟩) (Below.heap_setCell w p u g hp)).trans (h.2 k hk)⟩
/-- The level value of n reads well. -/
def Lev (w : World) (n : Int) (v : Value) : Prop := ∃ g off cap, v = .agg #[(.int .i64 n), .slice (some ⟨g, off, none⟩) (cop n n.toNat).length cap] ∧ Cs w g off (cop n n.toNat)
theorem Lev.below {w w' : World} {n : Int} {v : Value} (h : Lev w n v) (hb : Below w.heap.size w w') : Lev w' n v := by
  obtain ⟨g, off, cap, e, hc⟩ := h
  exact ⟨g, off, cap, e, hc.below hb⟩
theorem cop_pos (n : Int) : ∀ k : Nat, 1 ≤ (cop n (k + 1)).length
  | 0 => by simp [cop]
  | k + 1 => by
    have := cop_pos n k
    rw [cop]
    split
    · simp
    · exact this
theorem cop_one {n : Int} (h : 1 ≤ n) : 0 < (cop n n.toNat).length := by
  have := cop_pos n (n.toNat - 1)
  rwa [show n.toNat - 1 + 1 = n.toNat by omega] at this

set_option maxHeartbeats 1000000 in
theorem levelOf_any (n : Int) (h1 : 1 ≤ n) (h2 : n ≤ 60) (w : World) :
    Calls Tryd.prog 34 #[(.int .i64 n)] w fun e w' => ∃ v, e = .returned v ∧ Lev w' n v ∧ Below w.heap.size w w' := by
  have HU := Lib.hid (fun w => unitsOf_any n n.toNat (by omega) (by omega) w)
  go_enter Tryd.func34, Tryd.ntmps34
  go_wp2_with fail
  refine (HU.out _).mono ?_
  rintro e w1 ⟨v, rfl, hG, hb1⟩
  obtain ⟨_, a, cap, rfl, hc⟩ := hG.sl
  obtain ⟨g, off, rfl, hg, hg', hcell⟩ := hc (cop_one h1)
  simp only [World.size_alloc] at hg
  have HC : Hid (Cs w1 g off (cop n n.toNat)) := Lib.hid ⟨hg', fun k hk => (hcell k hk).1⟩
  have B1 : Box w1 w.heap.size [(.int .i64 0), .slice none 0 0] := Box.below (Box.new _ _ _) hb1
  obtain ⟨_, _, _, _, _⟩ := B1.two
  clear hc hcell hG
  go_wp2
  obtain ⟨_, e0, e1, _, _⟩ := (B1.put2 (.int .i64 n) (.slice (some ⟨g, off, none⟩) (cop n n.toNat).length cap)).two
  exact bodyPost_ret (v := .agg #[(.int .i64 n), .slice (some ⟨g, off, none⟩) (cop n n.toNat).length cap]) (by simp [results, Tryd.results34, go_sem, e0, e1]) rfl ⟨_, rfl, ⟨g, off, cap, rfl, (HC.out.set (by dsimp only; omega) _).set (by dsimp only; omega) _⟩, by repeat (first | with_reducible exact own_refl _ | with_reducible assumption | with_reducible apply own_alloc | with_reducible apply own_drewN | with_reducible apply own_drew | ((with_reducible refine own_setCell ?_ ?_ _); rotate_left; focus (first | (simp; done) | (simp; omega))) | (with_reducible (refine own_trans ?_ (by assumption))))⟩

theorem lss2_1 {a b x y : Int} (h : a < x) : lss2 a b x y = true := by simp [lss2, h]
theorem lss2_2 {a b x y : Int} (h : ¬ a < x) (h2 : ¬ a = x) : lss2 a b x y = false := by simp [lss2, h2]; omega
theorem lss2_3 {a b y : Int} (h : b < y) : lss2 a b a y = true := by simp [lss2, h]
theorem lss2_4 {a b y : Int} (h : ¬ b < y) : lss2 a b a y = false := by simp [lss2]; omega

set_option maxHeartbeats 4000000 in
theorem normal_any (n c d : Int) (h1 : 1 ≤ n) (h2 : n ≤ 60) (hc : I64 c) (hd : I64 d) (r : Int × Int) (hr : nrm n (rst c n) (rst d n) = r) (lv : Value) (w : World) (hL : Lev w n lv) :
    Calls Tryd.prog 66 #[lv, (.int .i64 c), (.int .i64 d)] w fun e w' => e = .returned (.agg #[(.int .i64 r.1), (.int .i64 r.2)]) ∧ Below w.heap.size w w' := by
  obtain ⟨gu, ou, cu, rfl, hC⟩ := hL
  obtain ⟨x, hx⟩ : ∃ x, rst c n = x := ⟨_, rfl⟩
  obtain ⟨y, hy⟩ : ∃ y, rst d n = y := ⟨_, rfl⟩
  have bx := rst_bd (x := c) h1
  have bY := rst_bd (x := d) h1
  rw [hx] at hr bx
  rw [hy] at hr bY
  obtain ⟨us, hus⟩ : ∃ us, cop n n.toNat = us := ⟨_, rfl⟩
  have HU : Hid (∀ u ∈ us, 1 ≤ u ∧ u ≤ n) := Lib.hid (fun u hu => by rw [← hus] at hu; have := cop_mem n _ u hu; omega)
  have HR : Hid (bst n x y us (x, y) = r) := Lib.hid (by rw [← hus]; exact hr)
  rw [hus] at hC ⊢
  have HCS := Lib.hid hC
  have HM : Hid (us.length ≤ 60) := Lib.hid (by rw [← hus]; have := cop_len n n.toNat; omega)
  obtain ⟨m, hm⟩ : ∃ m, us.length = m := ⟨_, rfl⟩
  have HML := Lib.hid hm
  have hm60 : m ≤ 60 := by rw [← hm]; exact HM.out
  rw [hm]
  have hgu := hC.1
  have HX := Lib.hid (fun w => restOf_any c n h1 (by omega) hc w)
  have HY := Lib.hid (fun w => restOf_any d n h1 (by omega) hd w)
  rw [hx] at HX
  rw [hy] at HY
  have HRD := Lib.hid (⟨bx.1, bx.2, bY.1, bY.2⟩ : Rst2 n (x, y))
  obtain ⟨_, _⟩ := bx
  obtain ⟨_, _⟩ := bY
  clear hr hus hm hC hx hy hc hd
  go_enter Tryd.func66, Tryd.ntmps66
  go_upto_region 1 with fail
  have BL : Box ((w.alloc (.cells #[(.int .i64 n), .slice (some ⟨gu, ou, none⟩) m cu] 54)).alloc (.cells #[(.int .i64 0), (.int .i64 0)] 101)) w.heap.size [(.int .i64 n), .slice (some ⟨gu, ou, none⟩) m cu] := Box.alloc (Box.new _ _ _) _
  have BZ : Box ((w.alloc (.cells #[(.int .i64 n), .slice (some ⟨gu, ou, none⟩) m cu] 54)).alloc (.cells #[(.int .i64 0), (.int .i64 0)] 101)) (w.heap.size + 1) [(.int .i64 0), (.int .i64 0)] := Box.newAt (by simp) _ _
  have T : Below w.heap.size w ((w.alloc (.cells #[(.int .i64 n), .slice (some ⟨gu, ou, none⟩) m cu] 54)).alloc (.cells #[(.int .i64 0), (.int .i64 0)] 101)) := own_alloc (own_alloc (own_refl _) _) _
  obtain ⟨_, _, _, _, _⟩ := BL.two
  go_cut [7] (fun s wx => s = .pointer (some ⟨w.heap.size + 1 + 1, 0, none⟩) ∧ Below w.heap.size w wx ∧ Box wx w.heap.size [(.int .i64 n), .slice (some ⟨gu, ou, none⟩) m cu] ∧ Box wx (w.heap.size + 1) [(.int .i64 0), (.int .i64 0)] ∧ Box wx (w.heap.size + 1 + 1) [(.int .i64 x), (.int .i64 y)] ∧ wx.heap.size = w.heap.size + 1 + 1 + 1)
  case first =>
    go_region_held3 (fun w' => w'.cell? ⟨w.heap.size, 0, none⟩ = some (.int .i64 n)) (go_keep)
      (first
        | (go_at_call 91; first | with_reducible refine (HX.out _).mono ?_ | with_reducible refine (HY.out _).mono ?_
           rintro e w' ⟨rfl, rfl⟩))
    all_goals
      go_wp2_with fail
      go_meet
      exact ⟨rfl, own_drew (own_alloc T _), BL.alloc _, BZ.alloc _, Box.newAt (by simp) _ _, by simp⟩
  case rest =>
    obtain ⟨rfl, T, BL, BZ, BP, hz⟩ := hcut
    obtain ⟨_, _, _, _, _⟩ := BL.two
    obtain ⟨_, _, _, _, _⟩ := BP.two
    go_wp2
    go_loopw [25] (fun i wr => ∃ k : Nat, k ≤ m ∧ i = (.int .i64 k) ∧ Below w.heap.size w wr ∧ Box wr w.heap.size [(.int .i64 n), .slice (some ⟨gu, ou, none⟩) m cu] ∧ Box wr (w.heap.size + 1) [(.int .i64 0), (.int .i64 0)] ∧ Box wr (w.heap.size + 1 + 1) [(.int .i64 x), (.int .i64 y)] ∧
      ∃ p q : Int, Box wr (w.heap.size + 1 + 1 + 1) [(.int .i64 p), (.int .i64 q)] ∧ Hid (bst n x y (us.drop k) (p, q) = r)) (fun i _ => m - (intOf i).toNat)
    case atStart => exact ⟨0, Nat.zero_le _, rfl, own_alloc T _, BL.alloc _, BZ.alloc _, BP.alloc _, x, y, Box.newAt hz _ _, Lib.hid (by simpa using HR.out)⟩
    case round =>
      obtain ⟨k, hk, rfl, T, BL, BZ, BP, p, q, BQ, HQ⟩ := hrel
      obtain ⟨_, _, _, _, _⟩ := BL.two
      obtain ⟨_, _, _, _, _⟩ := BP.two
      obtain ⟨_, _, _, _, _⟩ := BQ.two
      by_cases hlt : k < m
      · have hku : k < us.length := by rw [HML.out]; exact hlt
        obtain ⟨u, hu⟩ : ∃ u, us.getD k 0 = u := ⟨_, rfl⟩
        have hcell := (HCS.out.low T hgu).2 k hku
        rw [hu] at hcell
        have hu' : us[k] = u := by rw [← hu]; simp [List.getD, List.getElem?_eq_getElem hku]
        have hub := HU.out u (by rw [← hu']; exact List.getElem_mem hku)
        have hdrop : us.drop k = u :: us.drop (k + 1) := by rw [← hu']; exact List.drop_eq_getElem_cons hku
        have HN : Hid (bst n x y (us.drop (k + 1)) (stp n x y u (p, q)) = r) := Lib.hid (by have := HQ.out; rw [hdrop] at this; exact this)
        obtain ⟨a, ha⟩ : ∃ a, u * x % n = a := ⟨_, rfl⟩
        obtain ⟨b, hb⟩ : ∃ b, u * y % n = b := ⟨_, rfl⟩
        have HST : Hid (stp n x y u (p, q) = if lss2 a b p q = true then (a, b) else (p, q)) := Lib.hid (by unfold stp; rw [ha, hb])
        have e1 := mul60 (u := u) (x := x) (by omega) (by omega)
        have e2 := mul60 (u := u) (x := y) (by omega) (by omega)
        have e3 : 0 ≤ a ∧ a < n := by rw [← ha]; exact ⟨Int.emod_nonneg _ (by omega), Int.emod_lt_of_pos _ (by omega)⟩
        have e4 : 0 ≤ b ∧ b < n := by rw [← hb]; exact ⟨Int.emod_nonneg _ (by omega), Int.emod_lt_of_pos _ (by omega)⟩
        obtain ⟨_, _⟩ := e1
        obtain ⟨_, _⟩ := e2
        obtain ⟨_, _⟩ := e3
        obtain ⟨_, _⟩ := e4
        have ta : (u * x).tmod n = a := by rw [Int.tmod_eq_emod_of_nonneg (by omega), ha]
        have tb : (u * y).tmod n = b := by rw [Int.tmod_eq_emod_of_nonneg (by omega), hb]
        have hn0 : ¬ n = 0 := by omega
        have hwa : IntKind.i64.wrap (u * x) = u * x := IntWalk.i64_in _ (by omega)
        have hwb : IntKind.i64.wrap (u * y) = u * y := IntWalk.i64_in _ (by omega)
        clear hu hu' hub hdrop hku
        go_upto_region 6 with fail
        go_cut [11] (fun s wx => s = .pointer (some ⟨wr.heap.size, 0, none⟩) ∧ Below w.heap.size w wx ∧ Box wx w.heap.size [(.int .i64 n), .slice (some ⟨gu, ou, none⟩) m cu] ∧ Box wx (w.heap.size + 1) [(.int .i64 0), (.int .i64 0)] ∧ Box wx (w.heap.size + 1 + 1) [(.int .i64 x), (.int .i64 y)] ∧ Box wx (w.heap.size + 1 + 1 + 1) [(.int .i64 p), (.int .i64 q)] ∧ Box wx wr.heap.size [(.int .i64 a), (.int .i64 b)])
        case first =>
          go_region_held3 (fun w' => w'.cell? ⟨w.heap.size, 0, none⟩ = some (.int .i64 n) ∧ w'.cell? ⟨w.heap.size + 1 + 1, 0, none⟩ = some (.int .i64 x) ∧ w'.cell? ⟨w.heap.size + 1 + 1, 1, none⟩ = some (.int .i64 y)) (go_keep) (fail)
          all_goals
            go_wp2_with fail
            go_meet
            exact ⟨rfl, own_drew (own_alloc T _), BL.alloc _, BZ.alloc _, BP.alloc _, BQ.alloc _, by first | exact Box.new _ _ _ | (simp only [ta, tb, ha, hb]; exact Box.new _ _ _)⟩
        case rest =>
          obtain ⟨rfl, T, BL, BZ, BP, BQ, BA⟩ := hcut
          obtain ⟨_, _, _, _, _⟩ := BL.two
          obtain ⟨_, _, _, _, _⟩ := BP.two
          obtain ⟨_, _, _, _, _⟩ := BQ.two
          obtain ⟨_, _, _, _, _⟩ := BA.two
          clear ha hb ta tb hwa hwb
          by_cases c1 : a < p
          · have HW : Hid (stp n x y u (p, q) = (a, b)) := Lib.hid (by rw [HST.out, if_pos (lss2_1 c1)])
            go_wp2
            go_roundw
            case rel => exact ⟨k + 1, by omega, by go_num, by repeat (first | with_reducible exact own_refl _ | with_reducible assumption | with_reducible apply own_alloc | with_reducible apply own_drewN | with_reducible apply own_drew | ((with_reducible refine own_setCell ?_ ?_ _); rotate_left; focus (first | (simp; done) | (simp; omega))) | (with_reducible (refine own_trans ?_ (by assumption)))), ((BL.far (by dsimp only; omega) _).far (by dsimp only; omega) _), ((BZ.far (by dsimp only; omega) _).far (by dsimp only; omega) _), ((BP.far (by dsimp only; omega) _).far (by dsimp only; omega) _), a, b, BQ.put2 _ _, Lib.hid (by rw [← HW.out]; exact HN.out)⟩
            case measure => simp [intOf]; omega
          · by_cases c2 : a = p
            · subst c2
              by_cases c3 : b < q
              · have HW : Hid (stp n x y u (a, q) = (a, b)) := Lib.hid (by rw [HST.out, if_pos (lss2_3 c3)])
                go_wp2
                go_roundw
                case rel => exact ⟨k + 1, by omega, by go_num, by repeat (first | with_reducible exact own_refl _ | with_reducible assumption | with_reducible apply own_alloc | with_reducible apply own_drewN | with_reducible apply own_drew | ((with_reducible refine own_setCell ?_ ?_ _); rotate_left; focus (first | (simp; done) | (simp; omega))) | (with_reducible (refine own_trans ?_ (by assumption)))), ((BL.far (by dsimp only; omega) _).far (by dsimp only; omega) _), ((BZ.far (by dsimp only; omega) _).far (by dsimp only; omega) _), ((BP.far (by dsimp only; omega) _).far (by dsimp only; omega) _), a, b, BQ.put2 _ _, Lib.hid (by rw [← HW.out]; exact HN.out)⟩
                case measure => simp [intOf]; omega
              · have HW : Hid (stp n x y u (a, q) = (a, q)) := Lib.hid (by rw [HST.out, if_neg (by rw [lss2_4 c3]; simp)])
                go_wp2
                go_roundw
                case rel => exact ⟨k + 1, by omega, by go_num, T, BL, BZ, BP, a, q, BQ, Lib.hid (by rw [← HW.out]; exact HN.out)⟩
                case measure => simp [intOf]; omega
            · have HW : Hid (stp n x y u (p, q) = (p, q)) := Lib.hid (by rw [HST.out, if_neg (by rw [lss2_2 c1 c2]; simp)])
              go_wp2
              go_roundw
              case rel => exact ⟨k + 1, by omega, by go_num, T, BL, BZ, BP, p, q, BQ, Lib.hid (by rw [← HW.out]; exact HN.out)⟩
              case measure => simp [intOf]; omega
      · have HE : Hid (r = (p, q)) := Lib.hid (by
          have := HQ.out
          rw [List.drop_of_length_le (by rw [HML.out]; omega)] at this
          exact this.symm)
        obtain ⟨_, _, _, _, _⟩ := BZ.two
        go_wp2
        obtain ⟨_, e0, e1, _, _⟩ := (BZ.put2 (.int .i64 p) (.int .i64 q)).two
        exact bodyPost_ret (v := .agg #[(.int .i64 p), (.int .i64 q)]) (by simp [results, Tryd.results66, go_sem, e0, e1]) rfl ⟨by rw [HE.out], by repeat (first | with_reducible exact own_refl _ | with_reducible assumption | with_reducible apply own_alloc | with_reducible apply own_drewN | with_reducible apply own_drew | ((with_reducible refine own_setCell ?_ ?_ _); rotate_left; focus (first | (simp; done) | (simp; omega))) | (with_reducible (refine own_trans ?_ (by assumption))))⟩
end Go.Proofs.YtdcomnnpnhinfaaDoor
