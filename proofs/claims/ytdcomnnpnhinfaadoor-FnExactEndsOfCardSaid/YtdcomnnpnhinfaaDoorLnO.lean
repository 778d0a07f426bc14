/- LineOf of the program: contract. -/
import Derived.Test.YtdcomnnpnhinfaaDoorLnI
import Derived.Test.YtdcomnnpnhinfaaDoorLnS
namespace Go.Proofs.YtdcomnnpnhinfaaDoor
open Go.ChangeShapes Go.WideShapes Go.ChangeAt Go.RowKit Go.Shelf
attribute [local go_sem] Oper.semAt_some

set_option maxHeartbeats 1000000 in
theorem levelOf_own (n : Int) (h1 : 1 ≤ n) (h2 : n ≤ 60) (w : World) :
    Calls Tryd.prog 34 #[(.int .i64 n)] w fun e w' => ∃ g off cap, e = .returned (.agg #[(.int .i64 n), .slice (some ⟨g, off, none⟩) (cop n n.toNat).length cap]) ∧ w.heap.size ≤ g ∧ Cs w' g off (cop n n.toNat) ∧ Below w.heap.size w w' := by
  have HU := Lib.hid (fun w => unitsOf_any n n.toNat (by omega) (by omega) w)
  go_enter Tryd.func34, Tryd.ntmps34
  go_wp2_with fail
  refine (HU.out _).mono ?_
  rintro e w1 ⟨v, rfl, hG, hb1⟩
  obtain ⟨_, a, cap, rfl, hc⟩ := hG.sl
  obtain ⟨g, off, rfl, hg, hg', hcell⟩ := hc (cop_one h1)
  simp only [World.size_alloc] at hg
  have HC : Hid (Cs w1 g off (cop n n.toNat)) := Lib.hid ⟨hg', fun k hk => (hcell k hk).1⟩
  have B1 : Box w1 w.heap.size [(.int .i64 0), .slice none 0 0] := Box.below (Box.new _ _ _) hb1
  obtain ⟨_, _, _, _, _⟩ := B1.two
  clear hc hcell hG
  go_wp2
  obtain ⟨_, e0, e1, _, _⟩ := (B1.put2 (.int .i64 n) (.slice (some ⟨g, off, none⟩) (cop n n.toNat).length cap)).two
  exact bodyPost_ret (v := .agg #[(.int .i64 n), .slice (some ⟨g, off, none⟩) (cop n n.toNat).length cap]) (by simp [results, Tryd.results34, go_sem, e0, e1]) rfl ⟨g, off, cap, rfl, by omega, (HC.out.set (by dsimp only; omega) _).set (by dsimp only; omega) _, by repeat (first | with_reducible exact own_refl _ | with_reducible assumption | with_reducible apply own_alloc | with_reducible apply own_drewN | with_reducible apply own_drew | ((with_reducible refine own_setCell ?_ ?_ _); rotate_left; focus (first | (simp; done) | (simp; omega))) | (with_reducible (refine own_trans ?_ (by assumption))))⟩
theorem line_func (n : Int) (u : Value) (w : World) :
    Calls Tryd.prog 65 #[.agg #[(.int .i64 n), u]] w fun e w' => e = .returned (.func (.func 89) #[] #[.pointer (some ⟨w.heap.size, 0, none⟩)]) ∧ w' = w.alloc (.cells #[(.int .i64 n), u] 54) := by
  go_enter Tryd.func65, Tryd.ntmps65
  go_wp2
  go_ret
  exact ⟨rfl, rfl⟩
theorem GrSS.keptC {w w' : World} {L : Nat} {v : Value} {xss : List (List Int)} {row : Option Nat} (h : GrSS w L v xss) (hg : w.grownBy w' row) (hr : ∀ r, row = some r → r < L) : GrSS w' L v xss := by
  obtain ⟨vs, h1, h2, h3, h4⟩ := h
  have kp : ∀ {t : TypeId} {v : Value} {n : Nat} {xs : List Value}, w.ownsRow L t 1 v n xs → w'.ownsRow L t 1 v n xs := fun {t v n xs} h => by
    refine World.ownsRow.kept h hg ?_
    rcases e : v.ownBlock with _ | k
    · exact .inl rfl
    · exact .inr fun he => by have := hr k he.symm; have := (h.lt k e).1; omega
  exact ⟨vs, kp h1, h2, fun i hi => kp (h3 i hi), h4⟩
theorem ownsRow_weakZ {w : World} {L L' : Nat} {t : TypeId} {v : Value} {n : Nat} {xs : List Value} (h : w.ownsRow L t 1 v n xs) (hL : L' ≤ L) : w.ownsRow L' t 1 v n xs := by
  obtain ⟨hl, hc⟩ := h
  refine ⟨hl, ?_⟩
  obtain hc | ⟨g, cap, cur, h1, h2, h3⟩ := hc
  · exact .inl hc
  · exact .inr ⟨g, cap, cur, h1, Nat.le_trans hL h2, h3⟩
theorem GrSS.weakZ {w : World} {L L' : Nat} {v : Value} {xss : List (List Int)} (h : GrSS w L v xss) (hL : L' ≤ L) : GrSS w L' v xss := by
  obtain ⟨vs, h1, h2, h3, h4⟩ := h
  exact ⟨vs, ownsRow_weakZ h1 hL, h2, fun i hi => ownsRow_weakZ (h3 i hi) hL, h4⟩
theorem grownBy_setZ (w : World) (p : Addr) (u : Value) : w.grownBy (w.setCell p u) (some p.block) :=
  ⟨rfl, rfl, rfl, by simp [World.setCell], fun k _ hk => Below.heap_setCell w p u k (fun e => hk (by rw [e]))⟩
/-- 'xss = append(xss, row)' in a round. -/
theorem appSSI {F : Fence} {m : Nat} {ops : Array Oper} {rest : List Oper} {o : Oper} {a : Act} {Q : Exit → Act → World → Prop} (hgd : o.guard = none) (s x : Operand)
    (ho : o.op = .call { callee := .builtin .append, args := #[s, x], argTypes := #[49, 49] })
    (L : Nat) (wo w : World) (v : Value) (xss : List (List Int)) (r : Value) (xs : List Int) (hs : a.eval s = v) (hown : GrSS wo L v xss) (hw : wo.grownBy w none) (hr : Gr w L r xs) (hrb : ∀ k, r.ownBlock = some k → wo.heap.size ≤ k)
    (h1c : r.oneCell' = true) (g : Nat) (hx : a.eval x = .slice (some ⟨g, 0, none⟩) 1 1) (hg : w.heap.size = g) (hlen : xss.length ≤ 1000000) (hL : L ≤ w.heap.size)
    (h : ∀ v' w', GrSS w' L v' (xss ++ [xs]) → (w.alloc (.cells #[r] 22)).grownBy w' v.ownBlock → (∀ k, v.ownBlock = some k → L ≤ k) → wpListIn F m Tryd.prog ops Q rest (a.put o.dst v') w') : wpListIn F m Tryd.prog ops Q (o :: rest) a (w.alloc (.cells #[r] 22)) := by
  obtain ⟨i0, hi, hz0, hz1, hz2⟩ := info_parts info_row
  subst hg
  obtain ⟨vs, hV⟩ := hown
  have hvl : vs.length = xss.length := hV.2.1
  have hwn : wo.grownBy (w.alloc (.cells #[r] 22)) none := World.grownBy.trans hw (World.grownBy_alloc _ _ _)
  refine wpListIn_append_own _ hgd s x 49 ho L 22 i0 (.slice none 0 0) 1 24 Tryd.underlying49 hi hz0 hz1 hz2 rfl (by decide) v vs.length _ hs (kept_none hV.1 hwn) ⟨w.heap.size, 0, none⟩ 1 1 [r] hx rfl ?_ ?_ ?_ ?_ ?_ ?_
  · intro j u hj
    match j, hj with
    | 0, hj => simp at hj; subst hj; simp [Addr.add]
  · intro u hu; simp at hu; subst hu; exact h1c
  · unfold maxLen; omega
  · omega
  · simp; omega
  · intro v' w' hown' hgrow _
    exact h v' w' (GrSS.snoc hV hwn (Gr.alloc hr _) hrb hown' hgrow) hgrow (fun k hk => (hV.1.lt k hk).1)

/-- What a call that makes a slice of slices gives back. -/
def RetSS (xss : List (List Int)) (k : Int) (w : World) (e : Ending) (w' : World) : Prop :=
  ∃ v, e = .returned (.tuple #[v, (.int .i64 k)]) ∧ GrSS w' w.heap.size v xss ∧ Below w.heap.size w w'
/-- What LineOf keeps between two rounds. -/
def LI (w : World) (L : Nat) (pre : List (Int × Int)) (W : World) : Prop :=
  Below w.heap.size w W ∧ w.heap.size < W.heap.size ∧ ∃ v, Box W w.heap.size [v] ∧ GrSS W L v (prs pre)
theorem Box.rowC {w w' : World} {g : Nat} {xs : List Value} {row : Option Nat} (h : Box w g xs) (hg : w.grownBy w' row) (hr : ∀ r, row = some r → r ≠ g) : Box w' g xs :=
  h.heapZ (hg.block g h.1 (fun e => hr g e.symm rfl)) hg.size
end Go.Proofs.YtdcomnnpnhinfaaDoor
