/- Slices of slices, each of which owns its memory; and how slices of slices read. What is left of a list when rows are taken off it: mathematics. The model's reduction: mathematics. A slice of integers among the arguments, opened; and the row's end where an argument lies in memory. What is known of the error of what is left: an interface value with a pointer in it. EndsOf: contracts of both sides (begun). -/
import Derived.Test.YtdcomnnpnhinfaaDoorMS
import Derived.Test.YtdcomnnpnhinfaaDoorLnS
import Derived.Maps.AppendAt
import Derived.Test.YtdcomnnpnhinfaaDoorFlt
import Derived.Test.YtdcomnnpnhinfaaDoorCo
import Derived.Test.YtdcomnnpnhinfaaDoorLvC
import Derived.Test.YtdcomnnpnhinfaaDoorRlI
import Derived.Test.YtdcomnnpnhinfaaDoorEch
import Derived.Test.YtdcomnnpnhinfaaDoorRsB
import Derived.Test.YtdcomnnpnhinfaaDoorNm
import Derived.Test.YtdcomnnpnhinfaaDoorGr
import Derived.Test.YtdcomnnpnhinfaaDoorBase
import Derived.ChangeSlices
import Derived.Carry
import Derived.Test.YtdcomnnpnhinfaaDoorSl
import Derived.LaidLaws
import Derived.LaidSub
import Derived.Deep.DeepHandedRow
import Derived.MakeChecks
import Derived.Stop.ErrReads
import Derived.Defers
import Derived.Recover
import Derived.OwnWalk
/- Slices of slices, each of which owns its memory; and how slices of slices read. -/
namespace Go.Proofs.YtdcomnnpnhinfaaDoor
open Go.ChangeShapes Go.WideShapes Go.ChangeAt Go.RowKit

/-- The slice v owns its block, whose cells are the rows vs; each row owns its memory and reads as its list. -/
def GrW (w : World) (L : Nat) (v : Value) (vs : List Value) (xss : List (List Int)) : Prop :=
  w.ownsRow L 22 1 v vs.length vs ∧ vs.length = xss.length ∧ ∀ i, i < xss.length → Gr w L (vs.getD i rowZ) (xss.getD i [])
theorem GrW.own {w w' : World} {L : Nat} {v : Value} {vs : List Value} {xss : List (List Int)} (h : GrW w L v vs xss) (hb : Below w.heap.size w w') : GrW w' L v vs xss :=
  ⟨kept_none h.1 (grow_below hb), h.2.1, fun i hi => (h.2.2 i hi).own hb⟩
theorem GrW.lit {w : World} {L g : Nat} (hg : w.heap.size = g) (hL : L ≤ g) : GrW (w.alloc (.cells #[] 22)) L (.slice (some ⟨g, 0, none⟩) 0 0) [] [] := by
  subst hg
  exact ⟨World.ownsRow_lit w #[] 0 hL (by unfold maxLen; omega) rfl, rfl, fun i h => by simp at h⟩
theorem GrW.shape {w : World} {L : Nat} {v : Value} {vs : List Value} {xss : List (List Int)} (h : GrW w L v vs xss) : ∃ ad cap, v = .slice ad xss.length cap := by
  obtain ⟨⟨_, h1⟩, h2, _⟩ := h
  rcases h1 with ⟨rfl, h0⟩ | ⟨g, cap, cur, rfl, _⟩
  · exact ⟨none, 0, by rw [← h2, h0]⟩
  · exact ⟨_, cap, by rw [← h2]⟩
theorem GrW.other {w w' : World} {L L' n2 : Nat} {v v2 : Value} {vs us : List Value} {xss : List (List Int)} (h : GrW w L v vs xss) (h2 : w.ownsRow L' 22 1 v2 n2 us)
    (hne : ∀ g, v.ownBlock = some g → v2.ownBlock ≠ some g) (hg : w.grownBy w' v2.ownBlock) : GrW w' L v vs xss := by
  refine ⟨World.ownsRow.kept h.1 hg ?_, h.2.1, fun i hi => kept_apart (Ne.symm types_ss) (h.2.2 i hi) h2 hg⟩
  rcases e : v.ownBlock with _ | k
  · exact .inl rfl
  · exact .inr fun he => hne k e he.symm
theorem GrW.snoc {w w' : World} {L : Nat} {v v' r : Value} {vs : List Value} {xss : List (List Int)} {xs : List Int} (h : GrW w L v vs xss) (hr : Gr w L r xs) (hown : w'.ownsRow L 22 1 v' (vs.length + 1) (vs ++ [r]))
    (hg : w.grownBy w' v.ownBlock) : GrW w' L v' (vs ++ [r]) (xss ++ [xs]) := by
  obtain ⟨h1, h2, h3⟩ := h
  refine ⟨by rw [List.length_append]; exact hown, by simp [h2], fun i hi => ?_⟩
  simp only [List.length_append, List.length_cons, List.length_nil] at hi
  by_cases e : i < xss.length
  · have e1 : (vs ++ [r]).getD i rowZ = vs.getD i rowZ := by simp [List.getD, List.getElem?_append_left (show i < vs.length by omega)]
    have e2 : (xss ++ [xs]).getD i [] = xss.getD i [] := by simp [List.getD, List.getElem?_append_left e]
    rw [e1, e2]
    exact kept_apart (Ne.symm types_ss) (h3 i e) h1 hg
  · obtain rfl : i = xss.length := by omega
    have e1 : (vs ++ [r]).getD xss.length rowZ = r := by simp [List.getD, ← h2]
    have e2 : (xss ++ [xs]).getD xss.length [] = xs := by simp [List.getD]
    rw [e1, e2]
    exact kept_apart (Ne.symm types_ss) hr h1 hg
theorem GrW.join {w w' : World} {L : Nat} {v v' v2 : Value} {vs us : List Value} {xss yss : List (List Int)} (h : GrW w L v vs xss) (h2 : GrW w L v2 us yss) (hown : w'.ownsRow L 22 1 v' (vs.length + us.length) (vs ++ us))
    (hg : w.grownBy w' v.ownBlock) : GrW w' L v' (vs ++ us) (xss ++ yss) := by
  obtain ⟨h1, l1, h3⟩ := h
  obtain ⟨_, l2, h4⟩ := h2
  refine ⟨by rw [List.length_append]; exact hown, by simp [l1, l2], fun i hi => ?_⟩
  rw [List.length_append] at hi
  by_cases e : i < xss.length
  · have e1 : (vs ++ us).getD i rowZ = vs.getD i rowZ := by simp [List.getD, List.getElem?_append_left (show i < vs.length by omega)]
    have e2 : (xss ++ yss).getD i [] = xss.getD i [] := by simp [List.getD, List.getElem?_append_left e]
    rw [e1, e2]
    exact kept_apart (Ne.symm types_ss) (h3 i e) h1 hg
  · have e1 : (vs ++ us).getD i rowZ = us.getD (i - xss.length) rowZ := by simp [List.getD, List.getElem?_append_right (show vs.length ≤ i by omega), l1]
    have e2 : (xss ++ yss).getD i [] = yss.getD (i - xss.length) [] := by simp [List.getD, List.getElem?_append_right (show xss.length ≤ i by omega)]
    rw [e1, e2]
    exact kept_apart (Ne.symm types_ss) (h4 _ (by omega)) h1 hg
/-- 'rows = append(rows, more...)': the rows as values; the block is the old one or the next one. -/
theorem appRowAt {ops : Array Oper} {rest : List Oper} {o : Oper} {a : Act} {Q : Exit → Act → World → Prop} (hgd : o.guard = none) (s x : Operand)
    (ho : o.op = .call { callee := .builtin .append, args := #[s, x], argTypes := #[49, 49] })
    (L : Nat) (w : World) (v : Value) (n : Nat) (vs us : List Value) (hs : a.eval s = v) (hown : w.ownsRow L 22 1 v n vs)
    (m c g : Nat) (hx : a.eval x = .slice (some ⟨g, 0, none⟩) m c) (hm : us.length = m) (hc : ∀ j u, us[j]? = some u → w.cell? ⟨g, j, none⟩ = some u) (h1c : ∀ u ∈ us, u.oneCell' = true) (hlen : n + m ≤ 1000000) (hL : L ≤ w.heap.size)
    (h : ∀ v' w', w'.ownsRow L 22 1 v' (n + m) (vs ++ us) → w.grownBy w' v.ownBlock → (v'.ownBlock = v.ownBlock ∨ v'.ownBlock = some w.heap.size) → Below L w w' → wpList Tryd.prog ops Q rest (a.put o.dst v') w') : wpList Tryd.prog ops Q (o :: rest) a w := by
  obtain ⟨i0, hi, hz0, hz1, hz2⟩ := info_parts info_row
  refine wpList_append_own_at _ hgd s x 49 ho L 22 i0 (.slice none 0 0) 1 24 Tryd.underlying49 hi hz0 hz1 hz2 rfl (by decide) v n _ hs hown ⟨g, 0, none⟩ m c us hx (by omega) ?_ h1c ?_ ?_ hL ?_
  · intro j u hj
    rw [add0]
    exact hc j u hj
  · unfold maxLen; omega
  · omega
  · intro v' w' hown' hgrow _ hat
    exact h v' w' hown' hgrow hat ((Below.refl L w).grown hgrow hL (fun j hj => (hown.lt j hj).1))
theorem GrW.cells {w : World} {L n cap : Nat} {ad : Option Addr} {vs : List Value} {xss : List (List Int)} (h : GrW w L (.slice ad n cap) vs xss) (hn : 0 < n) : ∃ g, ad = some ⟨g, 0, none⟩ ∧ g < w.heap.size ∧ ∀ j u, vs[j]? = some u → w.cell? ⟨g, j, none⟩ = some u := by
  have hs := h.1
  obtain ⟨⟨_, ⟨e, h0⟩ | ⟨g, cap', cur, e, hg, hh, _⟩⟩, _⟩ := h
  · injection e with e1 e2 e3
    omega
  · injection e with e1 e2 e3
    refine ⟨g, e1, (Array.getElem?_eq_some_iff.1 hh).1, fun j u hj => ?_⟩
    have := hs.cells (g := g) (by rw [e1]; rfl) j u hj
    rwa [add0] at this
theorem GrW.oneC {w : World} {L : Nat} {v : Value} {vs : List Value} {xss : List (List Int)} (h : GrW w L v vs xss) : ∀ u ∈ vs, u.oneCell' = true := fun u hu => by
  obtain ⟨i, hi, rfl⟩ := List.getElem_of_mem hu
  have h2 := h.2.2 i (by rw [← h.2.1]; exact hi)
  have e : vs.getD i rowZ = vs[i] := by simp [List.getD, List.getElem?_eq_getElem hi]
  rw [e] at h2
  obtain ⟨ad, cap, e2⟩ := h2.shape
  rw [e2]
  rfl
end Go.Proofs.YtdcomnnpnhinfaaDoor
/- The model's RelationsOf: contract. -/
namespace Go.Proofs.YtdcomnnpnhinfaaDoor
open Go.ChangeShapes Go.WideShapes Go.ChangeAt Go.RowKit

theorem bmp_putZ {w : World} {L g cap N k : Nat} {xs : List Int} {y : Int} (h : Gr w L (.slice (some ⟨g, 0, none⟩) N cap) xs) (hl : xs.length = N) (hk : k < N) (hy : xs.getD k 0 + 1 = y) :
    Gr (w.setCell ⟨g, k, none⟩ (.int .i64 y)) L (.slice (some ⟨g, 0, none⟩) N cap) (bmp xs k) := by
  have := Gr.putZ (k := k) (y := y) (show Gr w L (.slice (some ⟨g, 0, none⟩) xs.length cap) xs by rw [hl]; exact h) (by omega)
  rw [hl] at this
  unfold bmp
  rw [hy]
  exact this
theorem Gr.far {w : World} {L B n cap : Nat} {xs : List Int} (h : Gr w L (.slice (some ⟨B, 0, none⟩) n cap) xs) {p : Addr} (hp : B ≠ p.block) (u : Value) : Gr (w.setCell p u) L (.slice (some ⟨B, 0, none⟩) n cap) xs :=
  World.ownsRow.kept h (setRow w p u) (.inr fun e => hp (by simpa [Value.ownBlock] using e))
theorem Gr.at {w : World} {L B n cap k : Nat} {xs : List Int} (h : Gr w L (.slice (some ⟨B, 0, none⟩) n cap) xs) (hk : k < n) : w.cell? ⟨B, k, none⟩ = some (.int .i64 (xs.getD k 0)) ∧ w.frozen? ⟨B, k, none⟩ = false := by
  obtain ⟨g, e, _, _, hc⟩ := h.cellsZ (by omega)
  injection e with e
  injection e with e
  subst e
  exact hc k hk
theorem zer_le (N : Nat) : ∀ q, 0 ≤ (zer N).getD q 0 ∧ (zer N).getD q 0 ≤ 0 := fun q => by rw [zer_get]; omega
theorem bmp_bd {l : List Int} {B : Int} (h : ∀ q, 0 ≤ l.getD q 0 ∧ l.getD q 0 ≤ B) (i : Nat) : ∀ q, 0 ≤ (bmp l i).getD q 0 ∧ (bmp l i).getD q 0 ≤ B + 1 := fun q => by
  have hq := h q
  by_cases hi : i < l.length
  · rw [bmp_get hi]
    split <;> omega
  · have e : bmp l i = l := by unfold bmp; exact List.set_eq_of_length_le (by omega)
    rw [e]
    omega
theorem cell1 (w : World) (v : Value) (t : TypeId) : ∀ j u, [v][j]? = some u → (w.alloc (.cells #[v] t)).cell? ⟨w.heap.size, j, none⟩ = some u := fun j u hj => (Box.new w [v] t).2 j u hj |>.1
theorem one1 {a : Option Addr} {n c : Nat} : ∀ u ∈ [Value.slice a n c], u.oneCell' = true := fun u hu => by
  simp at hu
  subst hu
  rfl
def relSs (n : Int) (N k : Nat) : List (List Int) := (List.range k).map (relS n N)
def relUs (n : Int) (N k : Nat) : List (List Int) := (List.range k).map (relU n N)
theorem relSs_len (n : Int) (N k : Nat) : (relSs n N k).length = k := by simp [relSs]
theorem relUs_len (n : Int) (N k : Nat) : (relUs n N k).length = k := by simp [relUs]
theorem relSs_snoc (n : Int) (N k : Nat) : relSs n N (k + 1) = relSs n N k ++ [relS n N k] := by simp [relSs, List.range_succ]
theorem relUs_snoc (n : Int) (N k : Nat) : relUs n N (k + 1) = relUs n N k ++ [relU n N k] := by simp [relUs, List.range_succ]
theorem rels_at (n : Int) (N j : Nat) (hj : j < N + N) : (relSs n N N ++ relUs n N N).getD j [] = rel n N j := by
  unfold rel
  by_cases h : j < N
  · rw [if_pos h]
    rw [List.getD, List.getElem?_append_left (show j < (relSs n N N).length by rw [relSs_len]; exact h)]
    simp [relSs, h]
  · rw [if_neg h]
    rw [List.getD, List.getElem?_append_right (show (relSs n N N).length ≤ j by rw [relSs_len]; omega), relSs_len]
    simp [relUs, show j - N < N by omega]
theorem relS_eq (n : Int) (N k : Nat) : relS n N k = bmp (bmp (zer N) k) (kS n k) := by simp [relS, addS]
theorem relU_eq (n : Int) (N k : Nat) : relU n N k = bmp (bmp (bmp (zer N) k) (kU n k)) (kV n k) := by simp [relU, addS]

end Go.Proofs.YtdcomnnpnhinfaaDoor
/- The laws' helpers over slices of slices of integers, however their rows lie. -/
namespace Go.Proofs.YtdcomnnpnhinfaaDoor
open Go.ChangeShapes Go.WideShapes Go.ChangeAt Go.RowKit

/-- The slice v has m rows, which read as told; all its memory lies below U. -/
def MixU (w : World) (U : Nat) (v : Value) (m : Nat) (vs : Nat → Value) (f : Nat → List Int) : Prop :=
  U ≤ w.heap.size ∧ (∃ ad cap, v = .slice ad m cap ∧ (0 < m → ∃ g, ad = some ⟨g, 0, none⟩ ∧ g < U ∧ ∀ k, k < m → w.cell? ⟨g, k, none⟩ = some (vs k))) ∧ ∀ k, k < m → Sl w 0 U (vs k) (f k)
theorem MixU.below {w w' : World} {U m : Nat} {v : Value} {vs : Nat → Value} {f : Nat → List Int} (h : MixU w U v m vs f) (hb : Below U w w') : MixU w' U v m vs f := by
  obtain ⟨h0, ⟨ad, cap, rfl, h1⟩, h2⟩ := h
  refine ⟨Nat.le_trans h0 hb.size, ⟨ad, cap, rfl, fun hm => ?_⟩, fun k hk => (h2 k hk).below hb⟩
  obtain ⟨g, e, hg, hc⟩ := h1 hm
  exact ⟨g, e, hg, fun k hk => (hb.cell (p := ⟨g, k, none⟩) hg).trans (hc k hk)⟩
theorem MixU.own {w w' : World} {U m : Nat} {v : Value} {vs : Nat → Value} {f : Nat → List Int} (h : MixU w U v m vs f) (hb : Below w.heap.size w w') : MixU w' U v m vs f := h.below (hb.mono h.1)
theorem Sl.low {w : World} {L L' U : Nat} {v : Value} {xs : List Int} (h : Sl w L U v xs) (hL : L' ≤ L) : Sl w L' U v xs := by
  obtain ⟨h0, a, cap, e, hc⟩ := h
  refine ⟨h0, a, cap, e, fun hn => ?_⟩
  obtain ⟨g, off, e1, e2, e3⟩ := hc hn
  exact ⟨g, off, e1, Nat.le_trans hL e2, e3⟩
theorem GrW.mixU {w : World} {L m : Nat} {v : Value} {vs : List Value} {xss : List (List Int)} {f : Nat → List Int} (h : GrW w L v vs xss) (hm : xss.length = m) (hf : ∀ j, j < m → xss.getD j [] = f j) : MixU w w.heap.size v m (fun k => vs.getD k rowZ) f := by
  subst hm
  obtain ⟨ad, cap, rfl⟩ := h.shape
  refine ⟨Nat.le_refl _, ⟨ad, cap, rfl, fun hn => ?_⟩, fun k hk => ?_⟩
  · obtain ⟨g, e, hg, hc⟩ := h.cells hn
    exact ⟨g, e, hg, fun k hk => hc k _ (by have : k < vs.length := by rw [h.2.1]; exact hk
                                            simp [List.getD, List.getElem?_eq_getElem this])⟩
  · rw [← hf k hk]
    exact (h.2.2 k hk).sl.low (Nat.zero_le _)
theorem Flat.mixU {w : World} {L g N M : Nat} {v : Value} {xs : List Int} {f : Nat → List Int} (h : Flat w L v g N M xs) (hR : RowsF xs N M f) (hl : ∀ j, j < M → (f j).length = N) (hM : 0 < M) (hN : 0 < N) : MixU w w.heap.size v M (rowV g N) f := by
  obtain ⟨h0, cap, rfl, _, h2, _, h3⟩ := h.shape hM
  refine ⟨Nat.le_refl _, ⟨_, cap, rfl, fun _ => ⟨h0, rfl, h2, h3⟩⟩, fun k hk => ?_⟩
  have hT := idx_lt (N := N) hM hN
  obtain ⟨_, hg, hc⟩ := h.cells (by omega)
  refine ⟨Nat.le_refl _, _, N, by rw [hl k hk]; rfl, fun _ => ⟨g, k * N, rfl, Nat.zero_le _, hg, fun i hi => ?_⟩⟩
  rw [hl k hk] at hi
  rw [← hR k hk i hi]
  exact hc _ (idx_lt hk hi)

/-- j marks from o on -/
def fillR (xs : List Int) (o : Nat) (m : Int) : Nat → List Int
  | 0 => xs
  | j + 1 => (fillR xs o m j).set (o + j) (m + j)
theorem fillR_len (xs : List Int) (o : Nat) (m : Int) : ∀ j : Nat, (fillR xs o m j).length = xs.length
  | 0 => rfl
  | j + 1 => by rw [fillR, List.length_set, fillR_len xs o m j]
theorem fillR_get (xs : List Int) (o : Nat) (m : Int) (q : Nat) : ∀ j : Nat, o + j ≤ xs.length → (fillR xs o m j).getD q 0 = if o ≤ q ∧ q < o + j then m + ((q - o : Nat) : Int) else xs.getD q 0
  | 0, _ => by rw [if_neg (by omega)]; rfl
  | j + 1, h => by
    have ih := fillR_get xs o m q j (by omega)
    rw [fillR]
    by_cases e : q = o + j
    · subst e
      rw [if_pos (by omega)]
      have hl := fillR_len xs o m j
      simp [List.getD, show o + j < (fillR xs o m j).length by omega]
    · have e2 : ((fillR xs o m j).set (o + j) (m + j)).getD q 0 = (fillR xs o m j).getD q 0 := by simp [List.getD, List.getElem?_set_ne (Ne.symm e)]
      rw [e2, ih]
      by_cases h2 : o ≤ q ∧ q < o + j
      · rw [if_pos h2, if_pos (by omega)]
      · rw [if_neg h2, if_neg (by omega)]
theorem RowsF.fill {xs : List Int} {N M j : Nat} {f : Nat → List Int} {m : Int} (h : RowsF xs N M f) (hl : xs.length = M * N) (hj : j < M) : RowsF (fillR xs (j * N) m N) N M (fun q => if q = j then ramp m N else f q) := by
  intro a ha i hi
  have hjN : j * N + N ≤ xs.length := by
    rw [hl]
    have h1 : (j + 1) * N ≤ M * N := Nat.mul_le_mul_right N hj
    rw [Nat.add_mul] at h1
    omega
  rw [fillR_get _ _ _ _ _ hjN]
  by_cases e : a = j
  · subst e
    rw [if_pos (by omega)]
    dsimp only
    rw [if_pos rfl, ramp_get _ _ _ hi]
    omega
  · rw [if_neg]
    · dsimp only
      rw [if_neg e]
      exact h a ha i hi
    · rintro ⟨h1, h2⟩
      have h3 : j * N + (a * N + i - j * N) = a * N + i := by omega
      exact e (idx_row hi (show a * N + i - j * N < N by omega) h3.symm).1
set_option maxHeartbeats 1000000 in
theorem markRow (xs : List Int) (m : Int) (g o cap T N L : Nat) (w : World) (hT : xs.length = T) (hoN : o + N ≤ T) (hTb : T ≤ 1000000) (hm : 0 ≤ m) (hm' : m ≤ 4294967296) (hv : Gr w L (.slice (some ⟨g, 0, none⟩) T cap) xs) :
    Calls Tryd.prog 20 #[.slice (some ⟨g, o, none⟩) N N, (.int .i64 m)] w fun e w' => e = .returned (.int .i64 (m + N)) ∧ Gr w' L (.slice (some ⟨g, 0, none⟩) T cap) (fillR xs o m N) ∧ w.grownBy w' (some g) := by
  have HV := Lib.hid hv
  have HT := Lib.hid hT
  clear hv hT
  go_enter Tryd.func20, Tryd.ntmps20
  go_wp2
  go_loopw [1, 5] (fun q i wr => ∃ k : Nat, k ≤ N ∧ i = (.int .i64 k) ∧ q = (.int .i64 (m + k)) ∧ Hid (Gr wr L (.slice (some ⟨g, 0, none⟩) T cap) (fillR xs o m k)) ∧ w.grownBy wr (some g)) (fun _ i _ => N - (intOf i).toNat)
  case atStart => exact ⟨0, Nat.zero_le _, rfl, by simp, HV, DRR w _⟩
  case round =>
    obtain ⟨k, hk, rfl, rfl, HG, hb⟩ := hrel
    by_cases hlt : k < N
    · have hpl : (fillR xs o m k).length = T := by rw [fillR_len]; exact HT.out
      obtain ⟨g', e, _, _, hc⟩ := HG.out.cellsZ (by omega)
      injection e with e; injection e with e; subst e
      obtain ⟨hx, hf⟩ := hc (o + k) (by omega)
      have HS : Hid (Gr (wr.setCell ⟨g, o + k, none⟩ (.int .i64 (m + k))) L (.slice (some ⟨g, 0, none⟩) T cap) (fillR xs o m (k + 1))) := Lib.hid (by
        have h2 := (show Gr wr L (.slice (some ⟨g, 0, none⟩) (fillR xs o m k).length cap) (fillR xs o m k) by rw [hpl]; exact HG.out).putZ (k := o + k) (y := m + k) (by rw [hpl]; omega)
        rw [hpl] at h2
        exact h2)
      have HW : Hid (w.grownBy (wr.setCell ⟨g, o + k, none⟩ (.int .i64 (m + k))) (some g)) := Lib.hid (World.grownBy.trans hb (setRow wr ⟨g, o + k, none⟩ (.int .i64 (m + k))))
      clear hc
      go_wp2
      go_roundw
      case rel => exact ⟨k + 1, by omega, by go_num, by go_num, HS, HW.out⟩
      case measure => simp [intOf]; omega
    · obtain rfl : k = N := by omega
      go_wp2
      go_ret
      exact ⟨rfl, HG.out, hb⟩
theorem relN {n : Int} (hn : lvC n = 0) : 1 ≤ n ∧ n ≤ 60 ∧ (ln n).length ≤ 72 ∧ 0 < (ln n).length := by
  have hn' : 1 ≤ n ∧ n ≤ 60 := of_decide_eq_true (lvC_0 hn).1
  refine ⟨hn'.1, hn'.2, (lvC_len hn).2, ?_⟩
  obtain ⟨K, hK, _⟩ := nrm_in hn'.1 (show isP n 0 1 = true by simp [isP])
  omega
/-- the marks of a row -/
def mkF (N k : Nat) : List Int := ramp (1 + (k * N : Nat)) N
end Go.Proofs.YtdcomnnpnhinfaaDoor
/- What is left of a list when rows are taken off it: mathematics. -/
namespace Go.Proofs.YtdcomnnpnhinfaaDoor
open Go.ChangeShapes Go.WideShapes Go.ChangeAt Go.RowKit
open Ech (Sp Rw Stair)

def gv (l : List Int) (k : Nat) : Int := l.getD k 0
/-- the rows that there are -/
def RE (N : Nat) (E : Nat → Option (List Int)) (r : Nat → Int) : Prop := ∃ i, i < N ∧ ∃ xs, E i = some xs ∧ r = gv xs
def with1 (R : (Nat → Int) → Prop) (x : Nat → Int) (r : Nat → Int) : Prop := R r ∨ r = x
/-- rests modulo p -/
def Rp (p : Int) (N : Nat) (l : List Int) : Prop := l.length = N ∧ ∀ k, k < N → 0 ≤ gv l k ∧ gv l k < p
/-- rows as they stand: in stairs -/
def Rows8 (p : Int) (N : Nat) (E : Nat → Option (List Int)) : Prop := ∀ i, i < N → ∀ xs, E i = some xs → Rp p N xs ∧ (∀ k, k < i → gv xs k = 0) ∧ gv xs i ≠ 0
/-- What taking rows off a list keeps, when k places are done. -/
def TI (p : Int) (N : Nat) (E : Nat → Option (List Int)) (x : Nat → Int) (ys : List Int) (k : Nat) : Prop :=
  Rp p N ys ∧ (∀ j, j < k → j < N → gv ys j = 0) ∧ Sp p N (with1 (RE N E) x) (gv ys) ∧ Sp p N (with1 (RE N E) (gv ys)) x
theorem rst_dvd {x p : Int} (hp : 1 ≤ p) : p ∣ rst x p - x := by
  rw [rst_emod x p hp]
  have := Int.mul_ediv_add_emod x p
  exact ⟨-(x / p), by rw [Int.mul_neg]; omega⟩
theorem TI.start {p : Int} {N : Nat} {E : Nat → Option (List Int)} {x : Nat → Int} {ys : List Int} (hp : 1 ≤ p) (hl : ys.length = N) (h : ∀ j, j < N → gv ys j = rst (x j) p) : TI p N E x ys 0 := by
  refine ⟨⟨hl, fun k hk => ?_⟩, fun j hj => by omega, ?_, ?_⟩
  · rw [h k hk]; exact rst_bd hp
  · exact (Sp.mem (.inr rfl)).congr fun k hk => by rw [h k hk]; exact rst_dvd hp
  · exact (Sp.mem (.inr rfl)).congr fun k hk => by
      have := Int.dvd_neg.2 (rst_dvd (x := x k) hp)
      rw [h k hk]
      rwa [Int.neg_sub] at this
theorem TI.skip {p : Int} {N : Nat} {E : Nat → Option (List Int)} {x : Nat → Int} {ys : List Int} {k : Nat} (h : TI p N E x ys k) (hz : gv ys k = 0) : TI p N E x ys (k + 1) := by
  obtain ⟨h1, h2, h3, h4⟩ := h
  refine ⟨h1, fun j hj hjN => ?_, h3, h4⟩
  rcases (show j = k ∨ j < k by omega) with rfl | h
  · exact hz
  · exact h2 j h hjN
theorem TI.take {p : Nat} (hp5 : Ech.fiveP p) {N : Nat} {E : Nat → Option (List Int)} {x : Nat → Int} {ys zs e : List Int} {k : Nat} (hE : Rows8 p N E) (h : TI p N E x ys k) (hk : k < N) (he : E k = some e)
    (hl : zs.length = N) (hz : ∀ j, j < N → gv zs j = rst (gv e k * gv ys j - gv ys k * gv e j) p) : TI p N E x zs (k + 1) := by
  have hp : (1 : Int) ≤ p := by rcases hp5 with rfl | rfl | rfl | rfl | rfl <;> omega
  obtain ⟨h1, h2, h3, h4⟩ := h
  obtain ⟨e1, e2, e3⟩ := hE k hk e he
  have hrow : ∀ q, RE N E q → with1 (RE N E) x q := fun q h => .inl h
  have hmem : RE N E (gv e) := ⟨k, hk, e, he, rfl⟩
  have hdv : ∀ j, j < N → (p : Int) ∣ gv zs j - (gv e k * gv ys j - gv ys k * gv e j) := fun j hj => by rw [hz j hj]; exact rst_dvd hp
  refine ⟨⟨hl, fun j hj => by rw [hz j hj]; exact rst_bd hp⟩, fun j hj hjN => ?_, ?_, ?_⟩
  · rw [hz j hjN, rst_emod _ _ hp]
    rcases (show j = k ∨ j < k by omega) with rfl | h
    · rw [Int.mul_comm, Int.sub_self, Int.zero_emod]
    · rw [h2 j h hjN, e2 j h]; simp
  · refine Sp.lin (x := fun j => gv e k * gv ys j) (-(gv ys k)) (Sp.lin (x := fun _ => 0) (gv e k) (.zero _ fun _ _ => ⟨0, by simp⟩) h3 fun j _ => ⟨0, by simp⟩) (Sp.mem (hrow _ hmem)) fun j hj => ?_
    have := hdv j hj
    refine Ech.dvd_eq this ?_
    rw [Int.neg_mul]
    omega
  · have hu : ¬ (p : Int) ∣ gv e k := fun hd => by
      obtain ⟨a, b⟩ := e1.2 k hk
      obtain ⟨c, hc⟩ := hd
      rcases (show c ≤ 0 ∨ 1 ≤ c by omega) with h | h
      · have := Int.mul_nonneg (show (0 : Int) ≤ p by omega) (show 0 ≤ -c by omega)
        rw [Int.mul_neg] at this
        omega
      · have := Int.mul_le_mul_of_nonneg_left h (show (0 : Int) ≤ p by omega)
        omega
    obtain ⟨v, hv⟩ := Ech.unit_of hp5 _ hu
    have hys : Sp p N (with1 (RE N E) (gv zs)) (gv ys) := by
      refine Sp.unit hv ?_
      refine Sp.lin (gv ys k) (Sp.mem (.inr rfl)) (Sp.mem (.inl hmem)) fun j hj => ?_
      have := Int.dvd_neg.2 (hdv j hj)
      refine Ech.dvd_eq this ?_
      omega
    refine h4.trans fun r hr => ?_
    rcases hr with hr | rfl
    · exact Sp.mem (.inl hr)
    · exact hys
end Go.Proofs.YtdcomnnpnhinfaaDoor
/- Comparing slices with nil. -/
namespace Go.Proofs.YtdcomnnpnhinfaaDoor
open Go.ChangeShapes Go.WideShapes Go.ChangeAt Go.RowKit
theorem nil_eq (w : World) : Sem.run Tryd.prog (binOp BinOp.eql 22 (.slice none 0 0) (.slice none 0 0)) w = .ok (.bool true) w := by kernel_rfl
theorem nil_ne (w : World) : Sem.run Tryd.prog (binOp BinOp.neq 22 (.slice none 0 0) (.slice none 0 0)) w = .ok (.bool false) w := by kernel_rfl
set_option maxRecDepth 100000 in
theorem some_eq (a : Addr) (n c : Nat) (w : World) : Sem.run Tryd.prog (binOp BinOp.eql 22 (.slice (some a) n c) (.slice none 0 0)) w = .ok (.bool false) w := by
  unfold binOp; first | kernel_rfl | simp [go_sem]
set_option maxRecDepth 100000 in
theorem some_ne (a : Addr) (n c : Nat) (w : World) : Sem.run Tryd.prog (binOp BinOp.neq 22 (.slice (some a) n c) (.slice none 0 0)) w = .ok (.bool true) w := by
  unfold binOp; first | kernel_rfl | simp [go_sem]
end Go.Proofs.YtdcomnnpnhinfaaDoor
/- (span).takeOff: contract. -/
namespace Go.Proofs.YtdcomnnpnhinfaaDoor
open Go.ChangeShapes Go.WideShapes Go.ChangeAt Go.RowKit
open Ech (Sp Rw Stair)

/-- How a row of a span stands in memory. -/
def RowAt (w : World) (U N : Nat) (r : Value) : Option (List Int) → Prop
  | none => r = .slice none 0 0
  | some xs => ∃ g cap, r = .slice (some ⟨g, 0, none⟩) N cap ∧ g < U ∧ xs.length = N ∧ ∀ k, k < N → w.cell? ⟨g, k, none⟩ = some (.int .i64 (gv xs k))
/-- The block b has the rows of a span. -/
def SpB (w : World) (U b N : Nat) (E : Nat → Option (List Int)) : Prop := U ≤ w.heap.size ∧ b < U ∧ ∀ i, i < N → ∃ r, w.cell? ⟨b, i, none⟩ = some r ∧ RowAt w U N r (E i)
theorem RowAt.below {w w' : World} {U N : Nat} {r : Value} {o : Option (List Int)} (h : RowAt w U N r o) (hb : Below U w w') : RowAt w' U N r o := by
  cases o with
  | none => exact h
  | some xs =>
    obtain ⟨g, cap, e, hg, hl, hc⟩ := h
    exact ⟨g, cap, e, hg, hl, fun k hk => (hb.cell (p := ⟨g, k, none⟩) hg).trans (hc k hk)⟩
theorem SpB.below {w w' : World} {U b N : Nat} {E : Nat → Option (List Int)} (h : SpB w U b N E) (hb : Below U w w') : SpB w' U b N E := by
  obtain ⟨h1, h2, h3⟩ := h
  refine ⟨Nat.le_trans h1 hb.size, h2, fun i hi => ?_⟩
  obtain ⟨r, hc, hr⟩ := h3 i hi
  exact ⟨r, (hb.cell (p := ⟨b, i, none⟩) h2).trans hc, hr.below hb⟩
/-- What takeOff gives. -/
def TK (p : Int) (N : Nat) (E : Nat → Option (List Int)) (x : Nat → Int) (ys : List Int) (first : Nat) : Prop :=
  first ≤ N ∧ TI p N E x ys first ∧ (first < N → gv ys first ≠ 0 ∧ E first = none)

theorem mul_bdP {a b : Int} (ha : 0 ≤ a ∧ a ≤ 10006) (hb : 0 ≤ b ∧ b ≤ 10006) : 0 ≤ a * b ∧ a * b ≤ 100120036 := by
  have h1 := Int.mul_nonneg ha.1 hb.1
  have h2 := Int.mul_le_mul ha.2 hb.2 hb.1 (by omega : (0 : Int) ≤ 10006)
  omega
end Go.Proofs.YtdcomnnpnhinfaaDoor
/- impl.spanOfRelations and the rank: contracts. -/
namespace Go.Proofs.YtdcomnnpnhinfaaDoor
open Go.ChangeShapes Go.WideShapes Go.ChangeAt Go.RowKit
open Ech (Sp Rw Stair)

/-- A span's rows where they may be set. -/
def SpW (w : World) (b N : Nat) (E : Nat → Option (List Int)) : Prop :=
  b < w.heap.size ∧ ∀ i, i < N → ∃ r, w.cell? ⟨b, i, none⟩ = some r ∧ w.frozen? ⟨b, i, none⟩ = false ∧ RowAt w w.heap.size N r (E i) ∧ ∀ g n c, r = .slice (some ⟨g, 0, none⟩) n c → b < g
theorem SpW.spB {w : World} {b N : Nat} {E : Nat → Option (List Int)} (h : SpW w b N E) : SpB w w.heap.size b N E :=
  ⟨Nat.le_refl _, h.1, fun i hi => by obtain ⟨r, h1, _, h3, _⟩ := h.2 i hi; exact ⟨r, h1, h3⟩⟩
theorem RowAt.more {w : World} {U U' N : Nat} {r : Value} {o : Option (List Int)} (h : RowAt w U N r o) (hU : U ≤ U') : RowAt w U' N r o := by
  cases o with
  | none => exact h
  | some xs =>
    obtain ⟨g, cap, e, hg, hl, hc⟩ := h
    exact ⟨g, cap, e, by omega, hl, hc⟩
theorem SpW.own {w w' : World} {b N : Nat} {E : Nat → Option (List Int)} (h : SpW w b N E) (hb : Below w.heap.size w w') : SpW w' b N E := by
  refine ⟨Nat.lt_of_lt_of_le h.1 hb.size, fun i hi => ?_⟩
  obtain ⟨r, h1, h2, h3, h4⟩ := h.2 i hi
  exact ⟨r, (hb.cell (p := ⟨b, i, none⟩) h.1).trans h1, (hb.frozen (p := ⟨b, i, none⟩) h.1).trans h2, (h3.below hb).more hb.size, h4⟩
theorem SpW.new {w : World} {b N : Nat} (hb : w.heap.size = b) : SpW (w.alloc (.cells (Array.replicate N rowZ) 22)) b N (fun _ => none) := by
  subst hb
  refine ⟨by simp, fun i hi => ⟨rowZ, ?_, ?_, rfl, fun g n c e => by simp [rowZ] at e⟩⟩
  · rw [World.cell?_alloc_at _ _ _ _ rfl]
    simp [hi]
  · exact World.frozen?_alloc_at _ _ _ _ rfl
theorem SpW.far {w : World} {b N : Nat} {E : Nat → Option (List Int)} (h : SpW w b N E) {p : Addr} (hp : p.block < b) (u : Value) : SpW (w.setCell p u) b N E := by
  have hs : (w.setCell p u).heap.size = w.heap.size := by simp [World.setCell]
  have hcell : ∀ g' k, p.block ≠ g' → (w.setCell p u).cell? ⟨g', k, none⟩ = w.cell? ⟨g', k, none⟩ := fun g' k hg' =>
    World.cell?_of_block (a := ⟨g', k, none⟩) (Below.heap_setCell w p u g' (Ne.symm hg'))
  refine ⟨by rw [hs]; exact h.1, fun i hi => ?_⟩
  obtain ⟨r, h1, h2, h3, h4⟩ := h.2 i hi
  refine ⟨r, (hcell b i (by omega)).trans h1, (World.frozen?_setCell _ _ _ _).trans h2, ?_, h4⟩
  rw [hs]
  generalize E i = o at h3 ⊢
  cases o with
  | none => exact h3
  | some xs =>
    obtain ⟨g, cap, e, hg, hl, hc⟩ := h3
    exact ⟨g, cap, e, hg, hl, fun k hk => (hcell g k (by have := h4 g N cap e; omega)).trans (hc k hk)⟩
def upd (E : Nat → Option (List Int)) (i : Nat) (ys : List Int) (j : Nat) : Option (List Int) := if j = i then some ys else E j
theorem SpW.set {w : World} {b N i g cap : Nat} {E : Nat → Option (List Int)} {ys : List Int} (h : SpW w b N E) (_ : i < N) (hg : g < w.heap.size) (hne : b < g) (hl : ys.length = N) (hc : ∀ k, k < N → w.cell? ⟨g, k, none⟩ = some (.int .i64 (gv ys k))) :
    SpW (w.setCell ⟨b, i, none⟩ (.slice (some ⟨g, 0, none⟩) N cap)) b N (upd E i ys) := by
  have hs : (w.setCell ⟨b, i, none⟩ (.slice (some ⟨g, 0, none⟩) N cap)).heap.size = w.heap.size := by simp [World.setCell]
  have hcell : ∀ g' k, g' ≠ b → (w.setCell ⟨b, i, none⟩ (.slice (some ⟨g, 0, none⟩) N cap)).cell? ⟨g', k, none⟩ = w.cell? ⟨g', k, none⟩ := fun g' k hg' =>
    World.cell?_of_block (a := ⟨g', k, none⟩) (Below.heap_setCell w ⟨b, i, none⟩ _ g' hg')
  refine ⟨by rw [hs]; exact h.1, fun j hj => ?_⟩
  obtain ⟨r, h1, h2, h3, h4⟩ := h.2 j hj
  have hf : (w.setCell ⟨b, i, none⟩ (.slice (some ⟨g, 0, none⟩) N cap)).frozen? ⟨b, j, none⟩ = false := (World.frozen?_setCell _ _ _ _).trans h2
  by_cases e : j = i
  · subst e
    refine ⟨.slice (some ⟨g, 0, none⟩) N cap, World.cell?_setCell_same _ _ _ h1, hf, ?_, fun g' n c e => by injection e with e; injection e with e; injection e with e; omega⟩
    unfold upd
    rw [if_pos rfl]
    exact ⟨g, cap, rfl, by rw [hs]; exact hg, hl, fun k hk => (hcell g k (by omega)).trans (hc k hk)⟩
  · refine ⟨r, ?_, hf, ?_, h4⟩
    · rw [World.cell?_setCell_other _ _ _ _ (by intro he; injection he with _ h2; exact e h2.symm)]
      exact h1
    · unfold upd
      rw [if_neg e, hs]
      generalize hE : E j = o at h3 ⊢
      cases o with
      | none => exact h3
      | some xs =>
        obtain ⟨g', cap', e', hg', hl', hc'⟩ := h3
        exact ⟨g', cap', e', hg', hl', fun k hk => (hcell g' k (by have := h4 g' N cap' e'; omega)).trans (hc' k hk)⟩
/-- relations so far -/
def RL (n : Int) (N m : Nat) (r : Nat → Int) : Prop := ∃ j, j < m ∧ r = gv (rel n N j)
/-- The rows and the first m relations have the same sums. -/
def SPAN (p : Int) (n : Int) (N m : Nat) (E : Nat → Option (List Int)) : Prop := Rows8 p N E ∧ (∀ r, RE N E r → Sp p N (RL n N m) r) ∧ ∀ j, j < m → Sp p N (RE N E) (gv (rel n N j))
theorem SPAN.start (p n : Int) (N : Nat) : SPAN p n N 0 (fun _ => none) := by
  refine ⟨fun i _ xs h => (by cases h), fun r hr => ?_, fun j hj => by omega⟩
  obtain ⟨i, _, xs, h, _⟩ := hr
  cases h
/-- a relation that leaves nothing -/
theorem SPAN.same {p : Nat} {n : Int} {N m : Nat} {E : Nat → Option (List Int)} {ys : List Int} (h : SPAN p n N m E) (ht : TI p N E (gv (rel n N m)) ys N) : SPAN p n N (m + 1) E := by
  obtain ⟨h1, h2, h3⟩ := h
  refine ⟨h1, fun r hr => (h2 r hr).mono fun q ⟨j, hj, e⟩ => ⟨j, by omega, e⟩, fun j hj => ?_⟩
  rcases (show j < m ∨ j = m by omega) with h | rfl
  · exact h3 j h
  · refine ht.2.2.2.trans fun r hr => ?_
    rcases hr with hr | rfl
    · exact Sp.mem hr
    · exact .zero _ fun k hk => by rw [ht.2.1 k hk hk]; exact ⟨0, by simp⟩
/-- a relation that leaves a row -/
theorem SPAN.more {p : Nat} {n : Int} {N m first : Nat} {E : Nat → Option (List Int)} {ys : List Int} (h : SPAN p n N m E) (hf : first < N) (ht : TI p N E (gv (rel n N m)) ys first) (h0 : gv ys first ≠ 0) (hE : E first = none) : SPAN p n N (m + 1) (upd E first ys) := by
  obtain ⟨h1, h2, h3⟩ := h
  have hold : ∀ r, RE N E r → RE N (upd E first ys) r := fun r ⟨i, hi, xs, e, e2⟩ => ⟨i, hi, xs, by
    unfold upd
    rw [if_neg (fun h => by rw [h, hE] at e; cases e)]
    exact e, e2⟩
  have hnew : RE N (upd E first ys) (gv ys) := ⟨first, hf, ys, by simp [upd], rfl⟩
  have hsub : ∀ r, RL n N m r → RL n N (m + 1) r := fun q ⟨j, hj, e⟩ => ⟨j, by omega, e⟩
  refine ⟨fun i hi xs e => ?_, fun r ⟨i, hi, xs, e, e2⟩ => ?_, fun j hj => ?_⟩
  · unfold upd at e
    by_cases e1 : i = first
    · subst e1
      rw [if_pos rfl] at e
      injection e with e
      subst e
      exact ⟨ht.1, fun k hk => ht.2.1 k hk (by omega), h0⟩
    · rw [if_neg e1] at e
      exact h1 i hi xs e
  · unfold upd at e
    by_cases e1 : i = first
    · subst e1
      rw [if_pos rfl] at e
      injection e with e
      subst e
      rw [e2]
      refine ht.2.2.1.trans fun q hq => ?_
      rcases hq with hq | rfl
      · exact (h2 q hq).mono hsub
      · exact Sp.mem ⟨m, by omega, rfl⟩
    · rw [if_neg e1] at e
      exact (h2 r ⟨i, hi, xs, e, e2⟩).mono hsub
  · rcases (show j < m ∨ j = m by omega) with h | rfl
    · exact (h3 j h).mono hold
    · refine ht.2.2.2.trans fun q hq => ?_
      rcases hq with hq | rfl
      · exact Sp.mem (hold q hq)
      · exact Sp.mem hnew
theorem rel_i64 {n : Int} {N j k : Nat} (hlv : lvC n = 0) (hN : (ln n).length = N) (hj : j < N + N) : I64 (gv (rel n N j) k) := by
  have hn' : 1 ≤ n ∧ n ≤ 60 := of_decide_eq_true (lvC_0 hlv).1
  subst hN
  have := rel_bd n (ln n).length j k (fun i hi => ⟨kS_lt hn'.1 hi, kU_lt hn'.1 hi, kV_lt hn'.1 hi⟩) hj
  unfold gv I64
  omega
end Go.Proofs.YtdcomnnpnhinfaaDoor
/- (span).rank, and the program's RankOf and DimensionOf: contracts. -/
namespace Go.Proofs.YtdcomnnpnhinfaaDoor
open Go.ChangeShapes Go.WideShapes Go.ChangeAt Go.RowKit
open Ech (Sp Rw Stair)

/-- how many rows there are -/
def cntE (E : Nat → Option (List Int)) : Nat → Nat
  | 0 => 0
  | k + 1 => cntE E k + if (E k).isSome = true then 1 else 0
theorem cntE_le (E : Nat → Option (List Int)) : ∀ k : Nat, cntE E k ≤ k
  | 0 => Nat.le_refl _
  | k + 1 => by
    have := cntE_le E k
    rw [cntE]
    split <;> omega
theorem mpC_0 (n p : Int) (xss : Nat → List Int) : mpC n p 0 xss = if isFive p = true then lvC n else 2 := by
  unfold mpC
  rw [mxC_0]
/-- the code of a level and a prime -/
def lpC (n p : Int) : Int := if isFive p = true then lvC n else 2
theorem lpC_0 {n p : Int} (h : lpC n p = 0) : lvC n = 0 ∧ ∃ P : Nat, p = P ∧ Ech.fiveP P := by
  unfold lpC at h
  split at h
  · rename_i h5
    refine ⟨h, p.toNat, ?_⟩
    rcases isFive_yes h5 with rfl | rfl | rfl | rfl | rfl <;> exact ⟨rfl, by unfold Ech.fiveP; omega⟩
  · omega
end Go.Proofs.YtdcomnnpnhinfaaDoor
/- The model's reduction: mathematics. -/
namespace Go.Proofs.YtdcomnnpnhinfaaDoor
open Go.ChangeShapes Go.WideShapes Go.ChangeAt Go.RowKit
open Ech (Sp Rw Stair)

/-- the row with its first number at a -/
def rowE (E : Nat → Option (List Int)) (a : Nat) : List Int := (E a).getD []
/-- The model's rows: their first numbers are 1 and stand at the places A, in the order of making; later rows have 0 at earlier places. -/
structure Red (p : Int) (N : Nat) (E : Nat → Option (List Int)) (A : List Nat) : Prop where
  rows : Rows8 p N E
  low : ∀ a ∈ A, a < N
  has : ∀ a, a ∈ A ↔ (E a).isSome = true
  nodup : A.Nodup
  one : ∀ a ∈ A, gv (rowE E a) a = 1
  tri : A.Pairwise fun a b => gv (rowE E b) a = 0
theorem Red.start (p : Int) (N : Nat) : Red p N (fun _ => none) [] :=
  ⟨fun i _ xs h => (by cases h), by simp, by simp, by simp, by simp, by simp⟩
theorem Red.row {p : Int} {N : Nat} {E : Nat → Option (List Int)} {A : List Nat} (h : Red p N E A) {a : Nat} (ha : a ∈ A) : E a = some (rowE E a) := by
  have := (h.has a).1 ha
  unfold rowE
  rcases hE : E a with _ | e
  · rw [hE] at this; cases this
  · rfl
/-- What the model keeps when the rows of the first k places of A are taken off. -/
def LT8 (p : Int) (N : Nat) (E : Nat → Option (List Int)) (A : List Nat) (x : Nat → Int) (ys : List Int) (k : Nat) : Prop :=
  Rp p N ys ∧ (∀ a ∈ A.take k, gv ys a = 0) ∧ Sp p N (with1 (RE N E) x) (gv ys) ∧ Sp p N (with1 (RE N E) (gv ys)) x
theorem LT8.start {p : Int} {N : Nat} {E : Nat → Option (List Int)} {A : List Nat} {x : Nat → Int} {ys : List Int} (hp : 1 ≤ p) (hl : ys.length = N) (h : ∀ j, j < N → gv ys j = rst (x j) p) : LT8 p N E A x ys 0 := by
  obtain ⟨h1, _, h3, h4⟩ := TI.start (E := E) hp hl h
  exact ⟨h1, by simp, h3, h4⟩
theorem takeN_mem {A : List Nat} {k a : Nat} (hk : k < A.length) (h : a ∈ A.take (k + 1)) : a ∈ A.take k ∨ a = A.getD k 0 := by
  rw [List.take_add_one] at h
  simp only [List.mem_append] at h
  rcases h with h | h
  · exact .inl h
  · right
    simp [List.getElem?_eq_getElem hk] at h
    rw [h]
    simp [List.getD, List.getElem?_eq_getElem hk]
theorem Red.tri_at {p : Int} {N : Nat} {E : Nat → Option (List Int)} {A : List Nat} (h : Red p N E A) {k a : Nat} (hk : k < A.length) (ha : a ∈ A.take k) : gv (rowE E (A.getD k 0)) a = 0 := by
  obtain ⟨i, hi, rfl⟩ := List.getElem_of_mem ha
  have hi2 : i < k ∧ i < A.length := by simp at hi; omega
  have h2 := List.pairwise_iff_getElem.1 h.tri i k hi2.2 hk hi2.1
  simp only [List.getElem_take, List.getD, List.getElem?_eq_getElem hk, Option.getD_some]
  exact h2
theorem LT8.skip {p : Int} {N : Nat} {E : Nat → Option (List Int)} {A : List Nat} {x : Nat → Int} {ys : List Int} {k : Nat} (h : LT8 p N E A x ys k) (hk : k < A.length) (hz : gv ys (A.getD k 0) = 0) : LT8 p N E A x ys (k + 1) := by
  obtain ⟨h1, h2, h3, h4⟩ := h
  refine ⟨h1, fun a ha => ?_, h3, h4⟩
  rcases takeN_mem hk ha with h | rfl
  · exact h2 a h
  · exact hz
theorem LT8.take {p : Nat} (hp : (1 : Int) < p) {N : Nat} {E : Nat → Option (List Int)} {A : List Nat} {x : Nat → Int} {ys zs : List Int} {k : Nat} (hR : Red p N E A) (h : LT8 p N E A x ys k) (hk : k < A.length)
    (hl : zs.length = N) (hz : ∀ j, j < N → gv zs j = if A.getD k 0 ≤ j then rst (gv ys j - gv ys (A.getD k 0) * gv (rowE E (A.getD k 0)) j) p else gv ys j) : LT8 p N E A x zs (k + 1) := by
  obtain ⟨h1, h2, h3, h4⟩ := h
  have hm : A.getD k 0 ∈ A := by
    simp only [List.getD, List.getElem?_eq_getElem hk, Option.getD_some]
    exact List.getElem_mem hk
  obtain ⟨a, ha⟩ : ∃ a, A.getD k 0 = a := ⟨_, rfl⟩
  have htri := fun b (hb : b ∈ A.take k) => hR.tri_at hk hb
  rw [ha] at hm hz htri
  have haN := hR.low a hm
  have hE := hR.row hm
  have h1a := hR.one a hm
  obtain ⟨e1, e2, e3⟩ := hR.rows a haN _ hE
  generalize rowE E a = e at *
  have hmem : RE N E (gv e) := ⟨a, haN, e, hE, rfl⟩
  have hz2 : ∀ j, j < N → gv zs j = rst (gv ys j - gv ys a * gv e j) p := fun j hj => by
    rw [hz j hj]
    split
    · rfl
    · rw [e2 j (by omega), rst_emod _ _ (by omega)]
      obtain ⟨q1, q2⟩ := h1.2 j hj
      rw [Int.mul_zero, Int.sub_zero, Int.emod_eq_of_lt q1 q2]
  have hdv : ∀ j, j < N → (p : Int) ∣ gv zs j - (gv ys j - gv ys a * gv e j) := fun j hj => by rw [hz2 j hj]; exact rst_dvd (by omega)
  refine ⟨⟨hl, fun j hj => by rw [hz2 j hj]; exact rst_bd (by omega)⟩, fun b hb => ?_, ?_, ?_⟩
  · rcases takeN_mem hk hb with hb' | rfl
    · have hbN := hR.low b (List.mem_of_mem_take hb')
      rw [hz2 b hbN, h2 b hb', htri b hb', rst_emod _ _ (by omega)]
      simp
    · rw [ha, hz2 a haN, h1a, rst_emod _ _ (by omega)]
      simp
  · refine Sp.lin (-(gv ys a)) h3 (Sp.mem (.inl hmem)) fun j hj => ?_
    refine Ech.dvd_eq (hdv j hj) ?_
    rw [Int.neg_mul]
    omega
  · refine h4.trans fun r hr => ?_
    rcases hr with hr | rfl
    · exact Sp.mem (.inl hr)
    · refine Sp.lin (gv ys a) (Sp.mem (.inr rfl)) (Sp.mem (.inl hmem)) fun j hj => ?_
      refine Ech.dvd_eq (Int.dvd_neg.2 (hdv j hj)) ?_
      omega
/-- nothing is left -/
theorem Red.same {p : Nat} {n : Int} {N m : Nat} {E : Nat → Option (List Int)} {A : List Nat} {ys : List Int} (h : SPAN p n N m E) (ht : LT8 p N E A (gv (rel n N m)) ys A.length) (h0 : ∀ k, k < N → gv ys k = 0) : SPAN p n N (m + 1) E :=
  h.same ⟨ht.1, fun j _ hj => h0 j hj, ht.2.2.1, ht.2.2.2⟩
/-- What is left and its first number. -/
theorem Red.more {p : Nat} (hp5 : Ech.fiveP p) {N : Nat} {E : Nat → Option (List Int)} {A : List Nat} {x : Nat → Int} {ys zs : List Int} {a : Nat} {v : Int} (hR : Red p N E A) (ht : LT8 p N E A x ys A.length) (ha : a < N)
    (hb : ∀ k, k < a → gv ys k = 0) (hz : gv ys a ≠ 0) (hv : (p : Int) ∣ gv ys a * v - 1) (hl : zs.length = N) (hzs : ∀ j, j < N → gv zs j = gv ys j * v % p) :
    Red p N (upd E a zs) (A ++ [a]) ∧ E a = none ∧ (∀ k, k < a → gv zs k = 0) ∧ gv zs a ≠ 0 ∧ TI p N E x zs a := by
  have hp : (5 : Int) ≤ p := by rcases hp5 with rfl | rfl | rfl | rfl | rfl <;> omega
  obtain ⟨t1, t2, t3, t4⟩ := ht
  rw [List.take_length] at t2
  have hA : a ∉ A := fun h => hz (t2 a h)
  have hE : E a = none := by
    rcases h : E a with _ | e
    · rfl
    · exact absurd ((hR.has a).2 (by rw [h]; rfl)) hA
  have hone : gv zs a = 1 := by
    rw [hzs a ha]
    have := emod_of_dvd hv
    rw [this]
    exact Int.emod_eq_of_lt (by omega) (by omega)
  have hzero : ∀ j, j < N → gv ys j = 0 → gv zs j = 0 := fun j hj h => by rw [hzs j hj, h]; simp
  have hRp : Rp p N zs := ⟨hl, fun k hk => by rw [hzs k hk]; exact ⟨Int.emod_nonneg _ (by omega), Int.emod_lt_of_pos _ (by omega)⟩⟩
  have hlow : ∀ k, k < a → gv zs k = 0 := fun k hk => hzero k (by omega) (hb k hk)
  have hdv : ∀ j, j < N → (p : Int) ∣ gv zs j - v * gv ys j := fun j hj => by
    rw [hzs j hj, Int.mul_comm v]
    exact dvd_emod _ _
  have hrow : ∀ b, b ≠ a → rowE (upd E a zs) b = rowE E b := fun b h => by unfold rowE upd; rw [if_neg h]
  have hrowa : rowE (upd E a zs) a = zs := by unfold rowE upd; rw [if_pos rfl]; rfl
  refine ⟨⟨fun i hi xs e => ?_, fun b h => ?_, fun b => ?_, ?_, fun b h => ?_, ?_⟩, hE, hlow, by omega, hRp, fun j hj hjN => hlow j hj, ?_, ?_⟩
  · unfold upd at e
    by_cases e1 : i = a
    · subst e1
      rw [if_pos rfl] at e
      injection e with e
      subst e
      exact ⟨hRp, hlow, by omega⟩
    · rw [if_neg e1] at e
      exact hR.rows i hi xs e
  · rcases List.mem_append.1 h with h | h
    · exact hR.low b h
    · simp at h; omega
  · rw [List.mem_append, List.mem_singleton, hR.has b]
    unfold upd
    by_cases e1 : b = a
    · simp [e1]
    · simp [e1]
  · rw [List.nodup_append]
    exact ⟨hR.nodup, by simp, fun b hb c hc => by simp at hc; rintro rfl; rw [hc] at hb; exact hA hb⟩
  · by_cases e1 : b = a
    · rw [e1, hrowa]; exact hone
    · rw [hrow b e1]
      rcases List.mem_append.1 h with h | h
      · exact hR.one b h
      · simp at h; exact absurd h e1
  · rw [List.pairwise_append]
    refine ⟨?_, by simp, fun b hbA c hc => ?_⟩
    · refine hR.tri.imp_of_mem fun {b c} hb hc h => ?_
      rw [hrow c (fun e => hA (e ▸ hc))]
      exact h
    · have hc' : c = a := by simpa using hc
      rw [hc', hrowa]
      exact hzero b (hR.low b hbA) (t2 b hbA)
  · refine Sp.lin (x := fun _ => 0) v (.zero _ fun _ _ => ⟨0, by simp⟩) t3 fun j hj => ?_
    refine Ech.dvd_eq (hdv j hj) ?_
    omega
  · refine t4.trans fun r hr => ?_
    rcases hr with hr | rfl
    · exact Sp.mem (.inl hr)
    · refine Sp.unit (u := v) (v := gv ys a) (Ech.dvd_eq hv (by rw [Int.mul_comm])) ?_
      refine (Sp.mem (R := with1 (RE N E) (gv zs)) (.inr rfl)).congr fun j hj => ?_
      refine Ech.dvd_eq (Int.dvd_neg.2 (hdv j hj)) ?_
      omega
end Go.Proofs.YtdcomnnpnhinfaaDoor
/- The model's l08Inverse and l08Left: contracts. -/
namespace Go.Proofs.YtdcomnnpnhinfaaDoor
open Go.ChangeShapes Go.WideShapes Go.ChangeAt Go.RowKit
open Ech (Sp Rw Stair)

theorem pwG_0 (p f a out : Nat) : Ech.pwG p f 0 a out = out := by cases f <;> simp [Ech.pwG]
theorem half_lt {k f : Nat} (h : k < 2 ^ (f + 1)) : k / 2 < 2 ^ f := by
  rw [Nat.pow_succ] at h
  omega
end Go.Proofs.YtdcomnnpnhinfaaDoor
/- The model's l08Reduced: contract. -/
namespace Go.Proofs.YtdcomnnpnhinfaaDoor
open Go.ChangeShapes Go.WideShapes Go.ChangeAt Go.RowKit
open Ech (Sp Rw Stair)

theorem pwG_lt {p : Nat} (hp : 0 < p) : ∀ (f k a out : Nat), out < p → Ech.pwG p f k a out < p
  | 0, _, _, out, h => h
  | f + 1, k, a, out, h => by
    rw [Ech.pwG]
    split
    · exact h
    · refine pwG_lt hp f _ _ _ ?_
      split
      · exact Nat.mod_lt _ hp
      · exact h
theorem invN_lt {p a : Nat} (hp : 1 < p) : Ech.invN p a < p := pwG_lt (by omega) _ _ _ _ hp
theorem map_rowE {E : Nat → Option (List Int)} {A : List Nat} {a : Nat} {zs : List Int} (hA : a ∉ A) : (A ++ [a]).map (rowE (upd E a zs)) = A.map (rowE E) ++ [zs] := by
  rw [List.map_append]
  congr 1
  · refine List.map_congr_left fun b hb => ?_
    unfold rowE upd
    rw [if_neg (fun h => hA (by rw [← h]; exact hb))]
  · simp [rowE, upd]
theorem map_getE {E : Nat → Option (List Int)} {A : List Nat} {k : Nat} (h : k < A.length) : (A.map (rowE E)).getD k [] = rowE E (A.getD k 0) := by
  simp [List.getD, List.getElem?_eq_getElem h]
theorem Red.len {p : Int} {N : Nat} {E : Nat → Option (List Int)} {A : List Nat} (h : Red p N E A) : A.length ≤ N := by
  have := h.nodup.length_le_of_subset (l₂ := List.range N) fun a ha => List.mem_range.2 (h.low a ha)
  simpa using this
end Go.Proofs.YtdcomnnpnhinfaaDoor
/- Ranks are equal, and lists go alike, however the rows were made. -/
namespace Go.Proofs.YtdcomnnpnhinfaaDoor
open Go.ChangeShapes Go.WideShapes Go.ChangeAt Go.RowKit
open Ech (Sp Rw Stair)

def dE (E : Nat → Option (List Int)) (i : Nat) : Prop := (E i).isSome = true
def eE (E : Nat → Option (List Int)) (i : Nat) : Nat → Int := gv (rowE E i)
theorem RE_iff {N : Nat} {E : Nat → Option (List Int)} {r : Nat → Int} : RE N E r ↔ Rw N (dE E) (eE E) r := by
  constructor
  · rintro ⟨i, hi, xs, h, rfl⟩
    exact ⟨i, hi, by unfold dE; rw [h]; rfl, by unfold eE rowE; rw [h]; rfl⟩
  · rintro ⟨i, hi, hd, rfl⟩
    unfold dE at hd
    rcases h : E i with _ | xs
    · rw [h] at hd; cases hd
    · exact ⟨i, hi, xs, h, by unfold eE rowE; rw [h]; rfl⟩
theorem not_dvd {p x : Int} (h0 : 0 ≤ x) (h1 : x < p) (h : x ≠ 0) : ¬ p ∣ x := fun ⟨c, hc⟩ => by
  rcases (show c ≤ 0 ∨ 1 ≤ c by omega) with h2 | h2
  · have := Int.mul_nonneg (show 0 ≤ p by omega) (show 0 ≤ -c by omega)
    rw [Int.mul_neg] at this
    omega
  · have := Int.mul_le_mul_of_nonneg_left h2 (show 0 ≤ p by omega)
    omega
theorem Rows8.stair {p : Int} {N : Nat} {E : Nat → Option (List Int)} (h : Rows8 p N E) : Stair p N (dE E) (eE E) := by
  intro i hi hd
  unfold dE at hd
  rcases hE : E i with _ | xs
  · rw [hE] at hd; cases hd
  · obtain ⟨h1, h2, h3⟩ := h i hi xs hE
    have e : eE E i = gv xs := by unfold eE rowE; rw [hE]; rfl
    rw [e]
    exact ⟨fun k hk => by rw [h2 k hk]; exact ⟨0, by simp⟩, not_dvd (h1.2 i hi).1 (h1.2 i hi).2 h3⟩
theorem SPAN.into {p n : Int} {N M : Nat} {E : Nat → Option (List Int)} (h : SPAN p n N M E) {x : Nat → Int} (hx : Sp p N (RL n N M) x) : Sp p N (RE N E) x :=
  hx.trans fun _ ⟨j, hj, e⟩ => e ▸ h.2.2 j hj
theorem SPAN.back {p n : Int} {N M : Nat} {E : Nat → Option (List Int)} (h : SPAN p n N M E) {x : Nat → Int} (hx : Sp p N (RE N E) x) : Sp p N (RL n N M) x := hx.trans h.2.1
theorem leads_in {p : Nat} (hp5 : Ech.fiveP p) {n : Int} {N M : Nat} {E E' : Nat → Option (List Int)} (h : SPAN p n N M E) (h' : SPAN p n N M E') {i : Nat} (hi : i < N) (hd : dE E i) : dE E' i :=
  Ech.leads (Ech.prime_of hp5) h.1.stair h'.1.stair (fun r hr => (h'.into (h.2.1 r (RE_iff.2 hr))).mono fun _ hq => RE_iff.1 hq) hi hd
theorem cntE_filter (E : Nat → Option (List Int)) : ∀ k : Nat, cntE E k = ((List.range k).filter fun i => (E i).isSome).length
  | 0 => rfl
  | k + 1 => by
    rw [cntE, cntE_filter E k, List.range_succ, List.filter_append, List.length_append]
    by_cases h : (E k).isSome = true
    · simp [h]
    · simp [h]
theorem rank_same {p : Nat} (hp5 : Ech.fiveP p) {n : Int} {N M : Nat} {E E' : Nat → Option (List Int)} {A : List Nat} (h : SPAN p n N M E) (h' : SPAN p n N M E') (hR : Red p N E' A) : cntE E N = A.length := by
  rw [cntE_filter]
  refine Ech.len_same (List.nodup_range.filter _) hR.nodup fun i => ?_
  rw [List.mem_filter, List.mem_range, hR.has i]
  constructor
  · rintro ⟨hi, hd⟩
    exact leads_in hp5 h h' hi hd
  · intro hd
    have hi := hR.low i ((hR.has i).2 hd)
    exact ⟨hi, leads_in hp5 h' h hi hd⟩
/-- the list is a sum of multiples of relations -/
def GO (p n : Int) (N M : Nat) (x : Nat → Int) : Prop := Sp p N (RL n N M) x
theorem Sp.drop1 {p : Int} {N : Nat} {R : (Nat → Int) → Prop} {x y : Nat → Int} (hy : Sp p N R y) (h : Sp p N (with1 R y) x) : Sp p N R x :=
  h.trans fun _ hr => by
    rcases hr with hr | rfl
    · exact Sp.mem hr
    · exact hy
/-- what the program finds -/
theorem TK.goes {p : Nat} (hp5 : Ech.fiveP p) {n : Int} {N M first : Nat} {E : Nat → Option (List Int)} {x : Nat → Int} {ys : List Int} (h : SPAN p n N M E) (ht : TK p N E x ys first) : first = N ↔ GO p n N M x := by
  obtain ⟨t1, ⟨t2, t3, t4, t5⟩, t6⟩ := ht
  constructor
  · rintro rfl
    exact h.back (Sp.drop1 (.zero _ fun k hk => by rw [t3 k hk hk]; exact ⟨0, by simp⟩) t5)
  · intro hg
    apply Classical.byContradiction
    intro hne
    obtain ⟨h0, hE⟩ := t6 (by omega)
    have hys : Sp p N (RE N E) (gv ys) := Sp.drop1 (h.into hg) t4
    have := Ech.lead (Ech.prime_of hp5) h.1.stair (hys.mono fun _ hq => RE_iff.1 hq) (show first < N by omega) (fun k hk => by rw [t3 k hk (by omega)]; exact ⟨0, by simp⟩) (by unfold dE; rw [hE]; simp)
    exact not_dvd (t2.2 first (by omega)).1 (t2.2 first (by omega)).2 h0 this
/-- what the model finds -/
theorem LT8.goes {p : Nat} (hp5 : Ech.fiveP p) {n : Int} {N M : Nat} {E : Nat → Option (List Int)} {A : List Nat} {x : Nat → Int} {ys : List Int} (h : SPAN p n N M E) (hR : Red p N E A) (ht : LT8 p N E A x ys A.length) : (∀ k, k < N → gv ys k = 0) ↔ GO p n N M x := by
  obtain ⟨t2, t3, t4, t5⟩ := ht
  rw [List.take_length] at t3
  constructor
  · intro h0
    exact h.back (Sp.drop1 (.zero _ fun k hk => by rw [h0 k hk]; exact ⟨0, by simp⟩) t5)
  · intro hg k hk
    have hys : Sp p N (RE N E) (gv ys) := Sp.drop1 (h.into hg) t4
    have := Ech.gone (Ech.prime_of hp5) h.1.stair (hys.mono fun _ hq => RE_iff.1 hq) (fun i hi hd => by rw [t3 i ((hR.has i).2 hd)]; exact ⟨0, by simp⟩) k hk
    apply Classical.byContradiction
    intro h0
    exact not_dvd (t2.2 k hk).1 (t2.2 k hk).2 h0 this
theorem lpC_of {n : Int} {p : Nat} (hlv : lvC n = 0) (hp5 : Ech.fiveP p) : lpC n p = 0 := by
  unfold lpC
  rw [if_pos (by rcases hp5 with rfl | rfl | rfl | rfl | rfl <;> rfl)]
  exact hlv
end Go.Proofs.YtdcomnnpnhinfaaDoor
/- A slice of integers among the arguments, opened; and the row's end where an argument lies in memory. -/
namespace Go.Proofs.YtdcomnnpnhinfaaDoor
open Go.ChangeShapes Go.WideShapes Go.ChangeAt Go.RowKit

/-- The address a, where there is something to read, leads to the integers xs, in blocks that are there. -/
def Rs (w : World) (a : Option Addr) (xs : List Int) : Prop := 0 < xs.length → ∃ b off, a = some ⟨b, off, none⟩ ∧ b < w.heap.size ∧ ∀ k, k < xs.length → w.cell? ⟨b, off + k, none⟩ = some (.int .i64 (xs.getD k 0))
theorem Rs.below {w w' : World} {a : Option Addr} {xs : List Int} (h : Rs w a xs) (hb : Below w.heap.size w w') : Rs w' a xs := by
  intro h0
  obtain ⟨b, off, rfl, hlt, hc⟩ := h h0
  exact ⟨b, off, rfl, Nat.lt_of_lt_of_le hlt hb.size, fun k hk => (hb.cell (p := ⟨b, off + k, none⟩) hlt).trans (hc k hk)⟩

section
variable {H : Type} {enc : TypeId × Value → H} {W : World} {b0 : Nat}
theorem cells_i64' : Tryd.prog.cellsOf 2 = 1 := by kernel_rfl
set_option maxRecDepth 100000 in
theorem openL {r : Reach} {v : Value} {d : DataW H} {p : List MemPlace} (hv : Value.okWide Tryd.prog W r b0 22 v)
    (h : DataW.Trod enc Tryd.prog W 0 (fun _ => true) true 22 v d p) (hlt : ∀ x ∈ p, x.block < W.heap.size) :
    ∃ (xs : List Int) (a : Option Addr) (cap : Nat), v = .slice a xs.length cap ∧ Rs W a xs ∧ (∀ x ∈ xs, I64 x) ∧ xs.length ≤ 9223372036854775807 := by
  obtain ⟨a0, len, cap, rfl⟩ := okWide_slice Tryd.underlying22 hv
  obtain ⟨fuel, hf⟩ := h
  rcases open_ints Tryd.underlying22 Tryd.underlying2 cells_i64' hf with ⟨hcs, hx⟩ | ⟨a, len', cap', zs, hcs, _, hl, hm, hz, hx, hcell, hwz⟩
  · simp [Value.cells] at hcs
    obtain ⟨rfl, rfl, rfl⟩ := hcs
    exact ⟨[], none, 0, rfl, fun h => absurd h (by simp), fun x hx => by simp at hx, by simp⟩
  · simp [Value.cells] at hcs
    obtain ⟨rfl, rfl, rfl⟩ := hcs
    simp only [Prod.mk.injEq] at hx
    obtain ⟨rfl, rfl⟩ := hx
    simp only [if_true] at hz
    have hlen : (zs.take len).length = len := by rw [List.length_take]; omega
    refine ⟨zs.take len, some a, cap, by rw [hlen], fun h0 => ?_, fun x hx => i64_of_wf (hwz x (List.mem_of_mem_take hx)), ?_⟩
    · obtain ⟨b, off, spot⟩ := a
      have hspot : spot = none := by simpa [Addr.add] using World.cell?_spot (hcell 0 (by omega))
      subst hspot
      refine ⟨b, off, rfl, hlt (.cell b off) (MemPlace.mem_row.2 ⟨0, by omega, by simp⟩), fun k hk => ?_⟩
      have := hcell k (by omega)
      rw [add_plain] at this
      rw [this, List.getD, List.getD, List.getElem?_take_of_lt (by omega)]
    · have : cap ≤ 9223372036854775807 := hm
      omega
end

section
variable {H : Type} {enc : TypeId × Value → H} {P : Program}
theorem post_one {f : Func} {s : ChangeSpec} {apart fresh handsOn : Bool} {W W' : World} {args : Array Value} {v : Value} {ds gs : List (DataW H)} {before pa pv : List MemPlace}
    (hW : DataW.Whole enc P f.params.toList s.vars apart W args.toList ds gs before)
    (hres : ∀ (b : Nat) (sp : Nat → Bool) (hd : Bool), DataW.TrodAll enc P W' b sp hd f.resultTypes.toList (v.resultList f.resultTypes.size) (s.fn H (ds ++ gs)).results [])
    (hargs : DataW.TrodAll enc P W' 0 (fun b => decide (b < W.heap.size)) true f.params.toList args.toList (s.fn H (ds ++ gs)).args pa)
    (hvars : DataW.TrodVars enc P W' (fun b => decide (b < W.heap.size)) s.vars (s.fn H (ds ++ gs)).vars pv)
    (hps : before = pa ++ pv) (hb : Below W.heap.size W W') : s.post enc P f apart fresh handsOn false W args v W' := by
  refine ⟨ds, gs, before, [], pa, pv, hW, hres _ _ _, hargs, hvars, World.keptBut_mono (fun p hp => ⟨hp, ?_⟩) (hb.frame (· ∈ before)), fun h => by cases h⟩
  exact Or.inr (List.mem_append.1 (hps ▸ hp))
end
end Go.Proofs.YtdcomnnpnhinfaaDoor
/- The law's helper that copies a slice of integers. -/
namespace Go.Proofs.YtdcomnnpnhinfaaDoor
open Go.ChangeShapes Go.WideShapes Go.ChangeAt Go.RowKit

theorem made64T (n : Nat) (hn : n ≤ 1048576) (w : World) : (Instr.makeSlice 22 (.int .i64 n) (.int .i64 n)).run Tryd.prog w =
    .ok (.slice (some ⟨w.heap.size, 0, none⟩) n n) (w.alloc (.cells ((List.replicate n (0 : Int)).map (Value.int .i64)).toArray 2)) := by
  obtain ⟨i0, hi, hz0, hz1, hz2⟩ := info_parts info_i64
  have h := run_make (P := Tryd.prog) (w := w) 22 2 i0 (.int .i64 0) Tryd.underlying22 hi hz0 .i64 .i64 n n (by omega) (Int.le_refl _) (by rw [hz2]; omega) (by omega)
  rw [h, hz1]
  have e : madeCells (Value.int .i64 0).cells ((n : Int).toNat * 1) = ((List.replicate n (0 : Int)).map (Value.int .i64)).toArray := by
    apply Array.ext
    · simp [size_madeCells]
    · intro i h1 h2
      simp [madeCells, Value.cells, Nat.mod_one]
  rw [e]
  simp
theorem part_set (xs : List Int) (k : Nat) (hk : k < xs.length) (x : Int) (hx : xs.getD k 0 = x) :
    (((xs.take k ++ List.replicate (xs.length - k) 0).map (Value.int .i64)).set k (.int .i64 x)) = (xs.take (k + 1) ++ List.replicate (xs.length - (k + 1)) 0).map (Value.int .i64) := by
  subst hx
  rw [← List.map_set]
  congr 1
  apply List.ext_getElem
  · simp; omega
  · intro i h1 h2
    simp only [List.getElem_set, List.getElem_append, List.getElem_take, List.length_take, List.getElem_replicate]
    by_cases e : k = i
    · subst e
      simp [hk, List.getD]
      omega
    · rw [if_neg e]
      by_cases h3 : i < k
      · rw [dif_pos (by omega), dif_pos (by omega)]
      · rw [dif_neg (by omega), dif_neg (by omega)]

set_option maxHeartbeats 1000000 in
theorem toS_full (a : Option Addr) (cap : Nat) (xs : List Int) (hn : xs.length ≤ 1048576) (w : World) (hr : Rs w a xs) :
    Calls Tryd.prog 17 #[.slice a xs.length cap] w fun e w' => ∃ v, e = .returned v ∧ Sl w' w.heap.size w'.heap.size v xs ∧ Below w.heap.size w w' ∧ ∃ a', v = .slice a' xs.length xs.length := by
  rcases Nat.eq_zero_or_pos xs.length with h0 | h0
  · obtain rfl : xs = [] := List.length_eq_zero_iff.1 h0
    clear hr hn h0
    have hmk : ∀ w : World, (Instr.makeSlice 22 (.int .i64 0) (.int .i64 0)).run Tryd.prog w = .ok (.slice (some ⟨w.heap.size, 0, none⟩) 0 0) (w.alloc (.cells #[] 2)) := fun w => by simpa using made64T 0 (by omega) w
    go_enter Tryd.func17, Tryd.ntmps17
    go_wp2
    go_loopw [4] (fun i wr => i = (.int .i64 0) ∧ Below w.heap.size w wr ∧ w.heap.size + 1 ≤ wr.heap.size) (fun _ _ => 0)
    case atStart => exact ⟨rfl, by repeat (first | with_reducible exact own_refl _ | with_reducible assumption | with_reducible apply own_alloc | with_reducible apply own_drewN | with_reducible apply own_drew | ((with_reducible refine own_setCell ?_ ?_ _); rotate_left; focus (first | (simp; done) | (simp; omega))) | (with_reducible (refine own_trans ?_ (by assumption)))), by simp⟩
    case round =>
      obtain ⟨rfl, T, hz⟩ := hrel
      go_wp2
      go_ret
      exact ⟨_, rfl, ⟨Nat.le_refl _, _, _, rfl, fun h => absurd h (by simp)⟩, T, _, rfl⟩
  · obtain ⟨b, off, rfl, hb, hc⟩ := hr h0
    have HC := Lib.hid hc
    clear hc
    have hmk := made64T xs.length hn
    go_enter Tryd.func17, Tryd.ntmps17
    go_wp2
    go_loopw [4] (fun i wr => ∃ k : Nat, k ≤ xs.length ∧ i = (.int .i64 k) ∧ Below w.heap.size w wr ∧ Box wr w.heap.size ((xs.take k ++ List.replicate (xs.length - k) 0).map (Value.int .i64))) (fun i _ => xs.length - (intOf i).toNat)
    case atStart => exact ⟨0, Nat.zero_le _, rfl, by repeat (first | with_reducible exact own_refl _ | with_reducible assumption | with_reducible apply own_alloc | with_reducible apply own_drewN | with_reducible apply own_drew | ((with_reducible refine own_setCell ?_ ?_ _); rotate_left; focus (first | (simp; done) | (simp; omega))) | (with_reducible (refine own_trans ?_ (by assumption)))), by simpa using Box.new w ((List.replicate xs.length (0 : Int)).map (Value.int .i64)) 2⟩
    case round =>
      obtain ⟨k, hk, rfl, T, hB⟩ := hrel
      by_cases hlt : k < xs.length
      · obtain ⟨x, hx⟩ : ∃ x, xs.getD k 0 = x := ⟨_, rfl⟩
        have c1 : wr.cell? ⟨b, off + k, none⟩ = some (.int .i64 x) := by rw [T.cell (p := ⟨b, off + k, none⟩) hb, ← hx]; exact HC.out k hlt
        have hg : ((xs.take k ++ List.replicate (xs.length - k) 0).map (Value.int .i64))[k]? = some (.int .i64 0) := by
          rw [List.getElem?_map, List.getElem?_append_right (by rw [List.length_take]; omega), List.getElem?_replicate, if_pos (by rw [List.length_take]; omega)]
          rfl
        obtain ⟨c2, f2⟩ := hB.2 k _ hg
        have HX := Lib.hid hx
        clear hx hg
        go_wp2
        go_roundw
        case rel => exact ⟨k + 1, by omega, by go_num, by repeat (first | with_reducible exact own_refl _ | with_reducible assumption | with_reducible apply own_alloc | with_reducible apply own_drewN | with_reducible apply own_drew | ((with_reducible refine own_setCell ?_ ?_ _); rotate_left; focus (first | (simp; done) | (simp; omega))) | (with_reducible (refine own_trans ?_ (by assumption)))), by rw [← part_set xs k hlt x HX.out]; exact hB.set k (by simp; omega) _⟩
        case measure => simp [intOf]; omega
      · have hke : k = xs.length := by omega
        have HB : Hid (Box wr w.heap.size (xs.map (Value.int .i64))) := Lib.hid (by subst hke; simpa using hB)
        clear hke hB
        go_wp2
        go_ret
        refine ⟨_, rfl, ⟨Nat.le_refl _, _, _, rfl, fun _ => ⟨w.heap.size, 0, rfl, Nat.le_refl _, HB.out.1, fun j hj => ?_⟩⟩, T, _, rfl⟩
        rw [Nat.zero_add]
        exact HB.out.2 j _ (by simp [List.getD, List.getElem?_eq_getElem hj])
theorem toS_any (a : Option Addr) (cap : Nat) (xs : List Int) (hn : xs.length ≤ 1048576) (w : World) (hr : Rs w a xs) :
    Calls Tryd.prog 17 #[.slice a xs.length cap] w fun e w' => ∃ v, e = .returned v ∧ Sl w' w.heap.size w'.heap.size v xs ∧ Below w.heap.size w w' :=
  (toS_full a cap xs hn w hr).mono fun _ _ ⟨v, h1, h2, h3, _⟩ => ⟨v, h1, h2, h3⟩
end Go.Proofs.YtdcomnnpnhinfaaDoor
/- What is known of the error of what is left: an interface value with a pointer in it. -/
namespace Go.Proofs.YtdcomnnpnhinfaaDoor
open Go.ChangeShapes Go.WideShapes Go.ChangeAt Go.RowKit

end Go.Proofs.YtdcomnnpnhinfaaDoor
/- What the row's list gives of the package's error. -/
namespace Go.Proofs.YtdcomnnpnhinfaaDoor
open Go.ChangeShapes Go.WideShapes Go.ChangeAt Go.RowKit

theorem cells_strL : Tryd.prog.cellsOf 9 = 1 := by kernel_rfl
theorem star_esL : "*" ++ "errors.errorString" = "*errors.errorString" := by decide
end Go.Proofs.YtdcomnnpnhinfaaDoor
/- (span).goes behind its door: contract. -/
namespace Go.Proofs.YtdcomnnpnhinfaaDoor
open Go.ChangeShapes Go.WideShapes Go.ChangeAt Go.RowKit
open Ech (Sp Rw Stair)

/-- What goes is told of. -/
structure GoS (p N : Nat) (n : Int) (M : Nat) (E : Nat → Option (List Int)) : Prop where
  hp5 : Ech.fiveP p
  hN0 : 0 < N
  hN : N ≤ 72
  sp : SPAN p n N M E
theorem TK.yes {p N M first : Nat} {n : Int} {E : Nat → Option (List Int)} {x : Nat → Int} {ys : List Int} (hS : GoS p N n M E) (ht : TK p N E x ys first) : GO p n N M x ↔ ¬ first < N := by
  rw [← ht.goes hS.hp5 hS.sp]
  have := ht.1
  omega
end Go.Proofs.YtdcomnnpnhinfaaDoor
/- Goes: contracts of both sides, and the walk of its law. -/
namespace Go.Proofs.YtdcomnnpnhinfaaDoor
open Go.ChangeShapes Go.WideShapes Go.ChangeAt Go.RowKit
open Ech (Sp Rw Stair)

theorem Mixes.one {w : World} {g : Nat} (hg : w.heap.size = g) (v : Value) (xs : List Int) (L U : Nat) (hS : Sl w L U v xs) : Mixes (w.alloc (.cells #[v] 22)) (.slice (some ⟨g, 0, none⟩) 1 1) 1 (fun _ => v) (fun _ => xs) := by
  subst hg
  refine ⟨⟨_, 1, rfl, fun _ => ⟨w.heap.size, rfl, by simp, fun k hk => ?_⟩⟩, fun k _ => ⟨L, U, hS.own (own_alloc (own_refl w) _)⟩⟩
  obtain rfl : k = 0 := by omega
  exact ((Box.new w [v] 22).2 0 v rfl).1
/-- what is known where the code is 0 -/
theorem mpC_ok {n p : Int} {m : Nat} {xss : Nat → List Int} (h : mpC n p m xss = 0) : lpC n p = 0 ∧ ∀ k, k < m → (xss k).length = (ln n).length ∧ ∀ j, -1000000 ≤ gv (xss k) j ∧ gv (xss k) j ≤ 1000000 := by
  unfold mpC at h
  split at h
  · rename_i h5
    unfold mxC at h
    split at h
    · rename_i hl
      split at h
      · rename_i ha
        refine ⟨by unfold lpC; rw [if_pos h5]; exact hl, fun k hk => ?_⟩
        have hok : mixOk (idx0 n) (xss k) = true := by
          rcases hm : mixOk (idx0 n) (xss k) with _ | _
          · rw [allOk_no hk hm] at ha; cases ha
          · rfl
        unfold mixOk at hok
        rw [Bool.and_eq_true, decide_eq_true_eq] at hok
        have hlen := (lvC_len hl).1
        refine ⟨by omega, fun j => ?_⟩
        by_cases hj : j < (xss k).length
        · have := List.all_eq_true.1 hok.2 (gv (xss k) j) (by unfold gv; simp only [List.getD, List.getElem?_eq_getElem hj, Option.getD_some]; exact List.getElem_mem hj)
          simpa [inW] using this
        · have : gv (xss k) j = 0 := by simp [gv, List.getD, List.getElem?_eq_none (show (xss k).length ≤ j by omega)]
          omega
      · omega
    · omega
  · omega
theorem goS_of {p N : Nat} {n : Int} {E : Nat → Option (List Int)} (hlv : lvC n = 0) (hN : (ln n).length = N) (hp5 : Ech.fiveP p) (h : SPAN p n N (N + N) E) : GoS p N n (N + N) E := by
  obtain ⟨_, _, h3, h4⟩ := relN hlv
  rw [hN] at h3 h4
  exact ⟨hp5, h4, h3, h⟩
theorem go_dec (P : Prop) : ∃ r : Bool, r = true ↔ P := by
  classical
  exact ⟨decide P, decide_eq_true_iff⟩
end Go.Proofs.YtdcomnnpnhinfaaDoor
/- EndsOf: contracts of both sides (begun). -/
namespace Go.Proofs.YtdcomnnpnhinfaaDoor
open Go.ChangeShapes Go.WideShapes Go.ChangeAt Go.RowKit

/-- what EndsOf gives -/
def RetEn (xs : List Int) (k : Int) (w : World) (e : Ending) (w' : World) : Prop :=
  ∃ v, e = .returned (.tuple #[v, (.int .i64 k)]) ∧ Sl w' w.heap.size w'.heap.size v xs ∧ Below w.heap.size w w'
theorem implEn_no (n c : Int) (xs : List Int) (hx : xs.length ≤ 4294967296) (hc : mxC n 1 (fun _ => xs) = c) (h0 : c ≠ 0) (v : Value) (L U : Nat) (w : World) (hS : Sl w L U v xs) : Calls Tryd.prog 18 #[(.int .i64 n), v] w (RetEn [] c w) := by
  obtain ⟨av, cv, rfl⟩ : ∃ a c, v = .slice a xs.length c := by obtain ⟨_, a, c, e, _⟩ := hS; exact ⟨a, c, e⟩
  have HC := Lib.hid (fun (w : World) hM => codeOfMixes_is n 1 (by omega) (.slice (some ⟨w.heap.size, 0, none⟩) 1 1) (fun _ => .slice av xs.length cv) (fun _ => xs) (fun _ _ => hx) c hc (w.alloc (.cells #[.slice av xs.length cv] 22)) hM)
  have HM := Lib.hid (Mixes.one rfl _ xs L U hS)
  have hne : (c != 0) = true := by simpa using h0
  clear hc h0 hS
  go_enter Tryd.func18, Tryd.ntmps18
  go_wp2_with fail
  refine (HC.out _ HM.out).mono ?_
  rintro e w2 ⟨rfl, hb2⟩
  go_wp2
  go_ret2
  exact ⟨_, rfl, Sl.nil _ _ _ (Nat.le_refl _), by repeat (first | with_reducible exact own_refl _ | with_reducible assumption | with_reducible apply own_alloc | with_reducible apply own_drewN | with_reducible apply own_drew | ((with_reducible refine own_setCell ?_ ?_ _); rotate_left; focus (first | (simp; done) | (simp; omega))) | (with_reducible (refine own_trans ?_ (by assumption))))⟩
theorem specEn_no (n c : Int) (xs : List Int) (hx : xs.length ≤ 4294967296) (hc : mxC n 1 (fun _ => xs) = c) (h0 : c ≠ 0) (v : Value) (L U : Nat) (w : World) (hS : Sl w L U v xs) : Calls Tryd.prog 16 #[(.int .i64 n), v] w (RetEn [] c w) := by
  obtain ⟨av, cv, rfl⟩ : ∃ a c, v = .slice a xs.length c := by obtain ⟨_, a, c, e, _⟩ := hS; exact ⟨a, c, e⟩
  have HC := Lib.hid (fun (w : World) hM => l08Sums_is n 1 (by omega) (.slice (some ⟨w.heap.size, 0, none⟩) 1 1) (fun _ => .slice av xs.length cv) (fun _ => xs) (fun _ _ => hx) c hc (w.alloc (.cells #[.slice av xs.length cv] 22)) hM)
  have HM := Lib.hid (Mixes.one rfl _ xs L U hS)
  have hne : (c != 0) = true := by simpa using h0
  clear hc h0 hS
  go_enter Tryd.func16, Tryd.ntmps16
  go_wp2_with fail
  refine (HC.out _ HM.out).mono ?_
  rintro e w2 ⟨rfl, hb2⟩
  go_wp2
  go_ret2
  exact ⟨_, rfl, Sl.nil _ _ _ (Nat.le_refl _), by repeat (first | with_reducible exact own_refl _ | with_reducible assumption | with_reducible apply own_alloc | with_reducible apply own_drewN | with_reducible apply own_drew | ((with_reducible refine own_setCell ?_ ?_ _); rotate_left; focus (first | (simp; done) | (simp; omega))) | (with_reducible (refine own_trans ?_ (by assumption))))⟩
end Go.Proofs.YtdcomnnpnhinfaaDoor
