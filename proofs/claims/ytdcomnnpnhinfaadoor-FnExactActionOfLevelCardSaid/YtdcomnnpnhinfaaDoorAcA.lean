/- Actions: two lists in blocks of their own; the laws' helpers over them. -/
import Derived.Test.YtdcomnnpnhinfaaDoorToS
import Derived.Test.YtdcomnnpnhinfaaDoorSS
import Derived.Test.YtdcomnnpnhinfaaDoorAcM
import Derived.OwnWalk
namespace Go.Proofs.YtdcomnnpnhinfaaDoor
open Go.ChangeShapes Go.WideShapes Go.ChangeAt Go.RowKit

/-- block g reads as the list xs -/
def Rc (w : World) (g : Nat) (xs : List Int) : Prop := g < w.heap.size ∧ ∀ k, k < xs.length → w.cell? ⟨g, k, none⟩ = some (.int .i64 (xs.getD k 0))
theorem Rc.below {w w' : World} {g : Nat} {xs : List Int} (h : Rc w g xs) (hb : Below w.heap.size w w') : Rc w' g xs :=
  ⟨Nat.lt_of_lt_of_le h.1 hb.size, fun k hk => (hb.cell (p := ⟨g, k, none⟩) h.1).trans (h.2 k hk)⟩
theorem Rc.low {w w' : World} {g L : Nat} {xs : List Int} (h : Rc w g xs) (hb : Below L w w') (hg : g < L) : Rc w' g xs :=
  ⟨Nat.lt_of_lt_of_le h.1 hb.size, fun k hk => (hb.cell (p := ⟨g, k, none⟩) hg).trans (h.2 k hk)⟩
theorem Rc.alloc {w : World} {g : Nat} {xs : List Int} (h : Rc w g xs) (o : Obj) : Rc (w.alloc o) g xs := h.below (own_alloc (own_refl w) o)
theorem Rc.drew {w : World} {g : Nat} {xs : List Int} (h : Rc w g xs) : Rc w.drew g xs := h
theorem Rc.drewN {w : World} {g : Nat} {xs : List Int} (h : Rc w g xs) (n : Nat) : Rc (w.drewN n) g xs := h
/-- the value v reads as the list xs -/
def Rl (w : World) (v : Value) (xs : List Int) : Prop := ∃ ad cap, v = .slice ad xs.length cap ∧ (0 < xs.length → ∃ g, ad = some ⟨g, 0, none⟩ ∧ Rc w g xs)
theorem Rl.below {w w' : World} {v : Value} {xs : List Int} (h : Rl w v xs) (hb : Below w.heap.size w w') : Rl w' v xs := by
  obtain ⟨ad, cap, e, h⟩ := h
  exact ⟨ad, cap, e, fun h0 => by obtain ⟨g, e, hr⟩ := h h0; exact ⟨g, e, hr.below hb⟩⟩
theorem Rl.alloc {w : World} {v : Value} {xs : List Int} (h : Rl w v xs) (o : Obj) : Rl (w.alloc o) v xs := h.below (own_alloc (own_refl w) o)
theorem Rl.drew {w : World} {v : Value} {xs : List Int} (h : Rl w v xs) : Rl w.drew v xs := h
theorem Gr.rl {w : World} {L : Nat} {v : Value} {xs : List Int} (h : Gr w L v xs) : Rl w v xs := by
  obtain ⟨ad, cap, rfl⟩ := h.shape
  refine ⟨ad, cap, rfl, fun h0 => ?_⟩
  obtain ⟨g, e, _, hg, hc⟩ := h.cellsZ h0
  exact ⟨g, e, hg, fun k hk => (hc k hk).1⟩
theorem Gr.weakL {w : World} {L L' : Nat} {v : Value} {xs : List Int} (h : Gr w L v xs) (hL : L' ≤ L) : Gr w L' v xs := by
  obtain ⟨h1, h2⟩ := h
  refine ⟨h1, ?_⟩
  rcases h2 with h2 | ⟨g, cap, cur, e, hg, h3⟩
  · exact .inl h2
  · exact .inr ⟨g, cap, cur, e, Nat.le_trans hL hg, h3⟩
/-- the value u is an action's two lists, each in a block of its own -/
def AcR (w : World) (L : Nat) (u : Value) (s t : List Int) : Prop :=
  ∃ a b, u = .agg #[a, b] ∧ Gr w L a s ∧ Gr w L b t ∧ ∀ g, a.ownBlock = some g → b.ownBlock ≠ some g
theorem AcR.own {w w' : World} {L : Nat} {u : Value} {s t : List Int} (h : AcR w L u s t) (hb : Below w.heap.size w w') : AcR w' L u s t := by
  obtain ⟨a, b, e, h1, h2, h3⟩ := h
  exact ⟨a, b, e, h1.own hb, h2.own hb, h3⟩
theorem AcR.weak {w : World} {L L' : Nat} {u : Value} {s t : List Int} (h : AcR w L u s t) (hL : L' ≤ L) : AcR w L' u s t := by
  obtain ⟨a, b, e, h1, h2, h3⟩ := h
  exact ⟨a, b, e, h1.weakL hL, h2.weakL hL, h3⟩
/-- the value u reads as an action's two lists -/
def Ac (w : World) (u : Value) (s t : List Int) : Prop := ∃ a b, u = .agg #[a, b] ∧ Rl w a s ∧ Rl w b t
theorem AcR.ac {w : World} {L : Nat} {u : Value} {s t : List Int} (h : AcR w L u s t) : Ac w u s t := by
  obtain ⟨a, b, e, h1, h2, _⟩ := h
  exact ⟨a, b, e, h1.rl, h2.rl⟩
theorem Ac.below {w w' : World} {u : Value} {s t : List Int} (h : Ac w u s t) (hb : Below w.heap.size w w') : Ac w' u s t := by
  obtain ⟨a, b, e, h1, h2⟩ := h
  exact ⟨a, b, e, h1.below hb, h2.below hb⟩
theorem AcR.shape {w : World} {L : Nat} {u : Value} {s t : List Int} (h : AcR w L u s t) : ∃ a c b d, u = .agg #[.slice a s.length c, .slice b t.length d] := by
  obtain ⟨a, b, rfl, h1, h2, _⟩ := h
  obtain ⟨_, _, rfl⟩ := h1.shape
  obtain ⟨_, _, rfl⟩ := h2.shape
  exact ⟨_, _, _, _, rfl⟩
theorem AcR.drew {w : World} {L : Nat} {u : Value} {s t : List Int} (h : AcR w L u s t) : AcR w.drew L u s t := h
theorem AcR.nil (w : World) (L : Nat) : AcR w L (.agg #[.slice none 0 0, .slice none 0 0]) [] [] :=
  ⟨_, _, rfl, Gr.nil _ _, Gr.nil _ _, fun g h => by simp [Value.ownBlock] at h⟩

/-- the first k numbers, then zeros -/
def prt (xs : List Int) (k : Nat) : List Int := xs.take k ++ List.replicate (xs.length - k) 0
theorem prt_len (xs : List Int) (k : Nat) (h : k ≤ xs.length) : (prt xs k).length = xs.length := by simp [prt]; omega
theorem prt_set (xs : List Int) (k : Nat) (hk : k < xs.length) (x : Int) (hx : xs.getD k 0 = x) : (prt xs k).set k x = prt xs (k + 1) := by
  subst hx
  apply List.ext_getElem
  · simp [prt]; omega
  · intro i h1 h2
    simp only [prt, List.getElem_set, List.getElem_append, List.getElem_take, List.length_take, List.getElem_replicate]
    by_cases e : k = i
    · subst e
      simp [hk, List.getD]
      omega
    · rw [if_neg e]
      by_cases h3 : i < k
      · rw [dif_pos (by omega), dif_pos (by omega)]
      · rw [dif_neg (by omega), dif_neg (by omega)]
theorem Gr.lit0 {w : World} {L g : Nat} (hg : w.heap.size = g) (hL : L ≤ g) (n : Nat) (hn : n ≤ 1048576) :
    Gr (w.alloc (.cells (Array.replicate n (.int .i64 0)) 2)) L (.slice (some ⟨g, 0, none⟩) n n) (List.replicate n 0) := by
  subst hg
  have h := World.ownsRow_lit (e := 2) (size := 1) (base := L) w (Array.replicate n (.int .i64 0)) n hL (by unfold maxLen; omega) (by simp)
  unfold Gr
  rw [List.length_replicate]
  simpa using h
theorem mk64 (n : Nat) (hn : n ≤ 1048576) (w : World) : (Instr.makeSlice 22 (.int .i64 n) (.int .i64 n)).run Tryd.prog w =
    .ok (.slice (some ⟨w.heap.size, 0, none⟩) n n) (w.alloc (.cells (Array.replicate n (.int .i64 0)) 2)) := by
  have h := made64T n hn w
  simpa using h
set_option maxHeartbeats 1000000 in
theorem toG_any (a : Option Addr) (cap : Nat) (xs : List Int) (hn : xs.length ≤ 1048576) (w : World) (hr : Rs w a xs) :
    Calls Tryd.prog 17 #[.slice a xs.length cap] w fun e w' => ∃ v, e = .returned v ∧ Gr w' w.heap.size v xs ∧ v.ownBlock = some w.heap.size ∧ Below w.heap.size w w' := by
  rcases Nat.eq_zero_or_pos xs.length with h0 | h0
  · obtain rfl : xs = [] := List.length_eq_zero_iff.1 h0
    clear hr hn h0
    have hmk : ∀ w : World, (Instr.makeSlice 22 (.int .i64 0) (.int .i64 0)).run Tryd.prog w = .ok (.slice (some ⟨w.heap.size, 0, none⟩) 0 0) (w.alloc (.cells #[] 2)) := fun w => by simpa using made64T 0 (by omega) w
    have HZ : Gr (w.alloc (.cells #[] 2)) w.heap.size (.slice (some ⟨w.heap.size, 0, none⟩) 0 0) [] := World.ownsRow_lit w #[] 0 (Nat.le_refl _) (by unfold maxLen; omega) rfl
    have T0 := own_alloc (own_refl w) (.cells #[] 2)
    go_enter Tryd.func17, Tryd.ntmps17
    go_wp2
    generalize w.alloc (.cells #[] 2) = w1 at *
    go_loopw [4] (fun i wr => i = (.int .i64 0) ∧ wr = w1) (fun _ _ => 0)
    case atStart => exact ⟨rfl, rfl⟩
    case round =>
      obtain ⟨rfl, rfl⟩ := hrel
      go_wp2
      go_ret
      exact ⟨_, rfl, HZ, rfl, T0⟩
  · obtain ⟨b, off, rfl, hb, hc⟩ := hr h0
    have HC := Lib.hid hc
    clear hc
    obtain ⟨n, hN⟩ : ∃ n, xs.length = n := ⟨_, rfl⟩
    have HN := Lib.hid hN
    have hmk := mk64 n (by omega)
    have HZ : Gr (w.alloc (.cells (Array.replicate n (.int .i64 0)) 2)) w.heap.size (.slice (some ⟨w.heap.size, 0, none⟩) n n) (prt xs 0) := by
      have := Gr.lit0 (w := w) (L := w.heap.size) rfl (Nat.le_refl _) n (by omega)
      simpa [prt, hN] using this
    have T0 := own_alloc (own_refl w) (.cells (Array.replicate n (.int .i64 0)) 2)
    rw [hN] at hn h0 ⊢
    clear hN
    go_enter Tryd.func17, Tryd.ntmps17
    go_wp2
    generalize w.alloc (.cells (Array.replicate n (.int .i64 0)) 2) = w1 at *
    go_loopw [4] (fun i wr => ∃ k : Nat, k ≤ n ∧ i = (.int .i64 k) ∧ Below w.heap.size w wr ∧ Hid (Gr wr w.heap.size (.slice (some ⟨w.heap.size, 0, none⟩) n n) (prt xs k))) (fun i _ => n - (intOf i).toNat)
    case atStart => exact ⟨0, Nat.zero_le _, rfl, T0, Lib.hid HZ⟩
    case round =>
      obtain ⟨k, hk, rfl, T, HB⟩ := hrel
      by_cases hlt : k < n
      · obtain ⟨x, hx⟩ : ∃ x, xs.getD k 0 = x := ⟨_, rfl⟩
        have hkx : k < xs.length := by rw [HN.out]; exact hlt
        have c1 : wr.cell? ⟨b, off + k, none⟩ = some (.int .i64 x) := by rw [T.cell (p := ⟨b, off + k, none⟩) hb, ← hx]; exact HC.out k hkx
        have hl : (prt xs k).length = n := by rw [prt_len _ _ (by omega)]; exact HN.out
        obtain ⟨g', e, _, _, hcl⟩ := HB.out.cellsZ (by omega)
        injection e with e; injection e with e; subst e
        obtain ⟨c2, f2⟩ := hcl k hlt
        have HS : Hid (Gr (wr.setCell ⟨w.heap.size, k, none⟩ (.int .i64 x)) w.heap.size (.slice (some ⟨w.heap.size, 0, none⟩) n n) (prt xs (k + 1))) := Lib.hid (by
          have h2 := (show Gr wr w.heap.size (.slice (some ⟨w.heap.size, 0, none⟩) (prt xs k).length n) (prt xs k) by rw [hl]; exact HB.out).putZ (k := k) (y := x) (by rw [hl]; exact hlt)
          rw [hl, prt_set xs k hkx x hx] at h2
          exact h2)
        clear hx hcl hl hkx
        go_wp2
        go_roundw
        case rel => exact ⟨k + 1, by omega, by go_num, own_setCell T (Nat.le_refl _) _, HS⟩
        case measure => simp [intOf]; omega
      · have HB2 : Hid (Gr wr w.heap.size (.slice (some ⟨w.heap.size, 0, none⟩) n n) xs) := Lib.hid (by
          have e : prt xs k = xs := by
            have : k = xs.length := by rw [HN.out]; omega
            subst this
            simp [prt]
          rw [← e]; exact HB.out)
        go_wp2
        go_ret
        exact ⟨_, rfl, HB2.out, rfl, T⟩

set_option maxHeartbeats 1000000 in
theorem eqA_same (u v : Value) (s t : List Int) (L L' : Nat) (w : World) (hs : s.length ≤ 4294967296) (ht : t.length ≤ 4294967296) (hu : AcR w L u s t) (hv : AcR w L' v s t) :
    Calls Tryd.prog 10 #[u, v] w fun e w' => e = .returned (.bool true) ∧ Below w.heap.size w w' := by
  obtain ⟨a, b, rfl, ha, hb, _⟩ := hu
  obtain ⟨c, d, rfl, hc, hd, _⟩ := hv
  have HA := Lib.hid (fun w' (h : Below w.heap.size w w') => eqS_same a c s _ _ _ _ w' hs (ha.own h).sl (hc.own h).sl)
  have HB := Lib.hid (fun w' (h : Below w.heap.size w w') => eqS_same b d t _ _ _ _ w' ht (hb.own h).sl (hd.own h).sl)
  obtain ⟨a1, k1, rfl⟩ := ha.shape
  obtain ⟨a2, k2, rfl⟩ := hb.shape
  obtain ⟨a3, k3, rfl⟩ := hc.shape
  obtain ⟨a4, k4, rfl⟩ := hd.shape
  clear ha hb hc hd hs ht
  generalize s.length = n at *
  generalize t.length = m at *
  go_enter Tryd.func10, Tryd.ntmps10
  go_wp2_with fail
  refine (HA.out _ (by repeat (first | with_reducible exact own_refl _ | with_reducible assumption | with_reducible apply own_alloc | with_reducible apply own_drewN | with_reducible apply own_drew | ((with_reducible refine own_setCell ?_ ?_ _); rotate_left; focus (first | (simp; done) | (simp; omega))) | (with_reducible (refine own_trans ?_ (by assumption)))))).mono ?_
  rintro e w2 ⟨rfl, hb2⟩
  have T2 : Below w.heap.size w w2 := by repeat (first | with_reducible exact own_refl _ | with_reducible assumption | with_reducible apply own_alloc | with_reducible apply own_drewN | with_reducible apply own_drew | ((with_reducible refine own_setCell ?_ ?_ _); rotate_left; focus (first | (simp; done) | (simp; omega))) | (with_reducible (refine own_trans ?_ (by assumption))))
  have Bw2_0 : Box w2 (w.heap.size) [.slice a1 n k1, .slice a2 m k2] := by refine Box.below ?_ hb2; repeat (first | with_reducible assumption | with_reducible exact Box.new _ _ _ | (with_reducible refine Box.newAt ?_ _ _; (simp; done)) | with_reducible apply Box.alloc | with_reducible apply Box.drewN | with_reducible apply Box.drew)
  obtain ⟨_, _, _, _, _⟩ := Bw2_0.two
  have Bw2_1 : Box w2 (w.heap.size + 1) [.slice a3 n k3, .slice a4 m k4] := by refine Box.below ?_ hb2; repeat (first | with_reducible assumption | with_reducible exact Box.new _ _ _ | (with_reducible refine Box.newAt ?_ _ _; (simp; done)) | with_reducible apply Box.alloc | with_reducible apply Box.drewN | with_reducible apply Box.drew)
  obtain ⟨_, _, _, _, _⟩ := Bw2_1.two
  go_wp2_with fail
  refine (HB.out _ (by repeat (first | with_reducible exact own_refl _ | with_reducible assumption | with_reducible apply own_alloc | with_reducible apply own_drewN | with_reducible apply own_drew | ((with_reducible refine own_setCell ?_ ?_ _); rotate_left; focus (first | (simp; done) | (simp; omega))) | (with_reducible (refine own_trans ?_ (by assumption)))))).mono ?_
  rintro e w4 ⟨rfl, hb4⟩
  go_wp2
  go_ret
  exact ⟨rfl, own_trans T2 hb4⟩
end Go.Proofs.YtdcomnnpnhinfaaDoor
