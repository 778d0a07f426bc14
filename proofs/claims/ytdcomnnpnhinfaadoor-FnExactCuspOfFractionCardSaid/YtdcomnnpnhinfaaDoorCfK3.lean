/- Slices of fractions that a call makes by append: how they read. Convergents: mathematics. Slices of fractions beside other boxes: what a store or an append leaves as it was. The chain of a matrix: mathematics alone. The runs of a positive matrix: mathematics alone. What '==' says of two matrices. spec.l02Runs: contract. What a call that makes a slice gives back. A scope with one label that is jumped to: by what holds at each jump. The continued fraction: mathematics, and the contracts of its parts. Convergents of a fraction are no greater than it: mathematics. The matrix that leads infinity to a fraction: convergents' determinants, and the last one. Mathematics only (its first part is XMxI's and XChF's: never import both). -/
import Derived.Test.YtdcomnnpnhinfaaDoorBase
import Derived.Test.YtdcomnnpnhinfaaDoorA
import Derived.Test.YtdcomnnpnhinfaaDoorMul
import Derived.Test.YtdcomnnpnhinfaaDoorGr
import Derived.ScopeJumps
/- Slices of fractions that a call makes by append: how they read. -/
namespace Go.Proofs.YtdcomnnpnhinfaaDoor
open Go.ChangeShapes Go.WideShapes Go.ChangeAt Go.RowKit

theorem info_elF : (Tryd.prog.info? 33).map (fun i => (i.zero, i.size, i.bytes)) = some (some (.agg #[.int .i64 0, .int .i64 0]), 2, 16) := by kernel_rfl
/-- The slice v of n elements owns a row of blocks from L on, and reads as the flat list xs. -/
def GrF (w : World) (L : Nat) (v : Value) (n : Nat) (xs : List Int) : Prop := w.ownsRow L 33 2 v n (xs.map fun x => (.int .i64 x))
/-- The slice v of n elements reads as the flat list xs; its memory lies in one block from L on and below U, not frozen. -/
def SlF (w : World) (L U : Nat) (v : Value) (n : Nat) (xs : List Int) : Prop :=
  xs.length = 2 * n ∧ U ≤ w.heap.size ∧ ∃ (a : Option Addr) (cap : Nat), v = .slice a n cap ∧ (0 < n → ∃ g, a = some ⟨g, 0, none⟩ ∧ L ≤ g ∧ g < U ∧
    ∀ k, k < 2 * n → w.cell? ⟨g, k, none⟩ = some (.int .i64 (xs.getD k 0)) ∧ w.frozen? ⟨g, k, none⟩ = false)
theorem GrF.nil (w : World) (L : Nat) : GrF w L (.slice none 0 0) 0 [] := World.ownsRow_nil _ _ _ _
theorem GrF.madeAt {w : World} {L g : Nat} (hg : w.heap.size = g) (hL : L ≤ g) : GrF (w.alloc (.cells #[] 33)) L (.slice (some ⟨g, 0, none⟩) 0 0) 0 [] := by
  subst hg
  exact World.ownsRow_made w #[] 0 hL (by unfold maxLen; omega) (by simp)
theorem GrF.own {w w' : World} {L n : Nat} {v : Value} {xs : List Int} (h : GrF w L v n xs) (hb : Below w.heap.size w w') : GrF w' L v n xs := by
  refine World.ownsRow.kept (row := none) h ⟨hb.os, hb.tape, hb.output, hb.size, fun k hk _ => hb.block k hk⟩ ?_
  rcases e : v.ownBlock with _ | k
  · exact .inl rfl
  · exact .inr (by simp)
theorem GrF.alloc {w : World} {L n : Nat} {v : Value} {xs : List Int} (h : GrF w L v n xs) (ob : Obj) : GrF (w.alloc ob) L v n xs := World.ownsRow.alloc h ob
theorem GrF.shape {w : World} {L n : Nat} {v : Value} {xs : List Int} (h : GrF w L v n xs) : ∃ ad cap, v = .slice ad n cap := by
  obtain ⟨hl, ⟨rfl, h0⟩ | ⟨g, cap, cur, rfl, _⟩⟩ := h
  · exact ⟨none, 0, by rw [h0]⟩
  · exact ⟨_, cap, rfl⟩
theorem GrF.sl {w : World} {L n : Nat} {v : Value} {xs : List Int} (h : GrF w L v n xs) : SlF w L w.heap.size v n xs := by
  obtain ⟨hl, hc⟩ := h
  have hl' : xs.length = 2 * n := by simpa [Nat.mul_comm] using hl
  refine ⟨hl', Nat.le_refl _, ?_⟩
  obtain ⟨rfl, h0⟩ | ⟨g, cap, cur, rfl, hg, hh, hn, _, hsz, ht⟩ := hc
  · exact ⟨none, 0, by rw [h0], fun hp => by omega⟩
  · refine ⟨_, cap, rfl, fun _ => ⟨g, rfl, hg, (Array.getElem?_eq_some_iff.1 hh).1, fun k hk => ?_⟩⟩
    have hk' : k < xs.length := by omega
    have hc : cur.toList[k]? = some (.int .i64 (xs.getD k 0)) := by
      have h1 : (cur.toList.take (n * 2))[k]? = (xs.map fun x => (.int .i64 x))[k]? := by rw [ht]
      rw [List.getElem?_take_of_lt (by omega), List.getElem?_map, List.getElem?_eq_getElem hk'] at h1
      rw [h1]
      simp [List.getD, List.getElem?_eq_getElem hk']
    have hc' : cur[k]? = some (.int .i64 (xs.getD k 0)) := by rw [← Array.getElem?_toList]; exact hc
    constructor
    · simp [World.cell?, hh, hc']
    · simp [World.frozen?, hh]
theorem SlF.nil (w : World) (L U : Nat) (h : U ≤ w.heap.size) : SlF w L U (.slice none 0 0) 0 [] := ⟨rfl, h, none, 0, rfl, fun h => absurd h (by simp)⟩
theorem SlF.below {w w' : World} {L U n : Nat} {v : Value} {xs : List Int} (h : SlF w L U v n xs) (hb : Below U w w') : SlF w' L U v n xs := by
  obtain ⟨hl, hu, a, cap, rfl, hc⟩ := h
  refine ⟨hl, Nat.le_trans hu hb.size, a, cap, rfl, fun hn => ?_⟩
  obtain ⟨g, rfl, hg, hg', hcell⟩ := hc hn
  refine ⟨g, rfl, hg, hg', fun k hk => ?_⟩
  rw [hb.cell (p := ⟨g, k, none⟩) hg', hb.frozen (p := ⟨g, k, none⟩) hg']
  exact hcell k hk
theorem SlF.own {w w' : World} {L U n : Nat} {v : Value} {xs : List Int} (h : SlF w L U v n xs) (hb : Below w.heap.size w w') : SlF w' L U v n xs := h.below (hb.mono h.2.1)
theorem SlF.weak {w : World} {L L' U n : Nat} {v : Value} {xs : List Int} (h : SlF w L U v n xs) (hL : L' ≤ L) : SlF w L' U v n xs := by
  obtain ⟨hl, hu, a, cap, rfl, hc⟩ := h
  refine ⟨hl, hu, a, cap, rfl, fun h0 => ?_⟩
  obtain ⟨g, rfl, hg, r⟩ := hc h0
  exact ⟨g, rfl, Nat.le_trans hL hg, r⟩

end Go.Proofs.YtdcomnnpnhinfaaDoor
/- Convergents: mathematics. -/
namespace Go.Proofs.YtdcomnnpnhinfaaDoor
open Go.ChangeShapes Go.WideShapes Go.ChangeAt Go.RowKit

/-- The convergent behind b and f for the next number x, as int64 has it. -/
def stepC (b f : Int × Int) (x : Int) : Int × Int := (wrap64 (wrap64 (x * f.1) + b.1), wrap64 (wrap64 (x * f.2) + b.2))
/-- The last two convergents. -/
def cst (xs : List Int) : (Int × Int) × (Int × Int) := xs.foldl (fun s x => (s.2, stepC s.1 s.2 x)) ((0, 1), (1, 0))
theorem cst_snoc (xs : List Int) (x : Int) : cst (xs ++ [x]) = ((cst xs).2, stepC (cst xs).1 (cst xs).2 x) := by simp [cst]
/-- All convergents. -/
def cvs (xs : List Int) : List (Int × Int) := (List.range xs.length).map fun i => (cst (xs.take (i + 1))).2
theorem cvs_len (xs : List Int) : (cvs xs).length = xs.length := by simp [cvs]
theorem cvs_snoc (xs : List Int) (x : Int) : cvs (xs ++ [x]) = cvs xs ++ [(cst (xs ++ [x])).2] := by
  unfold cvs
  rw [List.length_append, List.length_singleton, List.range_succ, List.map_append, List.map_singleton]
  congr 1
  · apply List.map_congr_left
    intro i hi
    rw [List.mem_range] at hi
    rw [List.take_append_of_le_length (by omega)]
  · rw [List.take_of_length_le (by simp)]
theorem take_snoc (xs : List Int) (k : Nat) (hk : k < xs.length) (x : Int) (hx : xs.getD k 0 = x) : xs.take (k + 1) = xs.take k ++ [x] := by
  rw [List.take_succ_eq_append_getElem hk]
  simp [← hx, List.getD, List.getElem?_eq_getElem hk]
theorem cvs_take (xs : List Int) (k : Nat) (hk : k < xs.length) (x : Int) (hx : xs.getD k 0 = x) :
    cvs (xs.take (k + 1)) = cvs (xs.take k) ++ [(cst (xs.take (k + 1))).2] ∧ cst (xs.take (k + 1)) = ((cst (xs.take k)).2, stepC (cst (xs.take k)).1 (cst (xs.take k)).2 x) := by
  rw [take_snoc xs k hk x hx]
  exact ⟨cvs_snoc _ _, cst_snoc _ _⟩
theorem cvs_prefix (xs : List Int) (k : Nat) : cvs (xs.take k) <+: cvs xs := by
  refine ⟨(cvs xs).drop k, ?_⟩
  have : cvs (xs.take k) = (cvs xs).take k := by
    unfold cvs
    rw [← List.map_take, List.take_range, List.length_take, Nat.min_comm]
    apply List.map_congr_left
    intro i hi
    rw [List.mem_range] at hi
    rw [List.take_take, Nat.min_eq_left (by omega)]
  rw [this, List.take_append_drop]
end Go.Proofs.YtdcomnnpnhinfaaDoor
/- Slices of fractions beside other boxes: what a store or an append leaves as it was. -/
namespace Go.Proofs.YtdcomnnpnhinfaaDoor
open Go.ChangeShapes Go.WideShapes Go.ChangeAt Go.RowKit

/-- Block b holds cells of the type t. -/
def TyB (w : World) (b : Nat) (t : TypeId) : Prop := ∃ cur, w.heap[b]? = some (.cells cur t (0, 0))
theorem TyB.of_heap {w w' : World} {b : Nat} {t : TypeId} (h : TyB w b t) (he : w'.heap[b]? = w.heap[b]?) : TyB w' b t := by
  obtain ⟨c, hc⟩ := h
  exact ⟨c, he.trans hc⟩
theorem TyB.lt {w : World} {b : Nat} {t : TypeId} (h : TyB w b t) : b < w.heap.size := by
  obtain ⟨c, hc⟩ := h
  exact (Array.getElem?_eq_some_iff.1 hc).1
theorem TyB.below {w w' : World} {b : Nat} {t : TypeId} (h : TyB w b t) (hb : Below w.heap.size w w') : TyB w' b t := h.of_heap (hb.block b h.lt)
theorem TyB.alloc {w : World} {b : Nat} {t : TypeId} (h : TyB w b t) (o : Obj) : TyB (w.alloc o) b t := h.of_heap (Below.heap_alloc _ _ _ h.lt)
theorem TyB.newAt {w : World} {g : Nat} (hg : w.heap.size = g) (xs : Array Value) (t : TypeId) : TyB (w.alloc (.cells xs t)) g t := by
  subst hg
  exact ⟨xs, Array.getElem?_push_size⟩
theorem TyB.set {w : World} {b : Nat} {t : TypeId} (h : TyB w b t) (p : Addr) (v : Value) : TyB (w.setCell p v) b t := by
  by_cases e : p.block = b
  · obtain ⟨c, hc⟩ := h
    subst e
    obtain ⟨hlt, hk⟩ := Array.getElem?_eq_some_iff.1 hc
    unfold TyB
    simp only [World.setCell]
    rw [Array.getElem?_eq_getElem (by rw [Array.size_modify]; exact hlt), Array.getElem_modify_self, hk]
    exact ⟨_, rfl⟩
  · exact h.of_heap (Below.heap_setCell w p v b (fun he => e he.symm))
theorem GrF.far {w : World} {L n : Nat} {v : Value} {xs : List Int} (h : GrF w L v n xs) {p : Addr} (hp : ∀ g, v.ownBlock = some g → g ≠ p.block) (u : Value) : GrF (w.setCell p u) L v n xs := by
  refine World.ownsRow.kept (row := some p.block) h ⟨rfl, rfl, rfl, by simp [World.setCell], fun k _ hne => Below.heap_setCell w p u k (fun e => hne (by rw [e]))⟩ ?_
  rcases e : v.ownBlock with _ | g
  · exact .inl rfl
  · exact .inr (fun he => hp g e (by injection he))
theorem GrF.apart {w : World} {L n b : Nat} {v : Value} {xs : List Int} {t : TypeId} (h : GrF w L v n xs) (hT : TyB w b t) (ht : t ≠ 33) : ∀ g, v.ownBlock = some g → g ≠ b := by
  intro g hg e
  subst e
  obtain ⟨c, hc⟩ := hT
  obtain ⟨hl, ⟨rfl, h1⟩ | ⟨g', cap, cur, rfl, hg', hh, _⟩⟩ := h
  · simp [Value.ownBlock] at hg
  · have e : g' = g := by simpa [Value.ownBlock] using hg
    subst e
    rw [hh] at hc
    injection hc with hc
    injection hc with h1 h2 h3
    exact ht h2.symm
end Go.Proofs.YtdcomnnpnhinfaaDoor
/- spec.l03Convergents: contract. -/
namespace Go.Proofs.YtdcomnnpnhinfaaDoor
open Go.ChangeShapes Go.WideShapes Go.ChangeAt Go.RowKit

def okQ (p : Int × Int) : Bool := inW p.1 1000000000 && inW p.2 1000000000
def flatQ (ps : List (Int × Int)) : List Int := ps.flatMap fun p => [p.1, p.2]
theorem flatQ_snoc (ps : List (Int × Int)) (p : Int × Int) : flatQ (ps ++ [p]) = flatQ ps ++ [p.1, p.2] := by simp [flatQ]
theorem flatQ_len (ps : List (Int × Int)) : (flatQ ps).length = 2 * ps.length := by
  induction ps with
  | nil => rfl
  | cons p r ih => simp only [flatQ, List.flatMap_cons, List.length_append, List.length_cons, List.length_nil] at *; omega
theorem ok_prefix {ps qs : List (Int × Int)} (h : ps <+: qs) (hp : ps.all okQ = false) : qs.all okQ = false := by
  obtain ⟨t, rfl⟩ := h
  simp [List.all_append, hp]
theorem Box.of_heapS {w w' : World} {g : Nat} {xs : List Value} (h : Box w g xs) (he : w'.heap[g]? = w.heap[g]?) (hs : w.heap.size ≤ w'.heap.size) : Box w' g xs :=
  ⟨Nat.lt_of_lt_of_le h.1 hs, fun i v hv => ⟨(World.cell?_of_block (a := ⟨g, i, none⟩) he).trans (h.2 i v hv).1, (World.frozen?_of_block (a := ⟨g, i, none⟩) he).trans (h.2 i v hv).2⟩⟩
/-- What l03Convergents gives back. -/
def RetC (r : Bool) (n : Nat) (xs : List Int) (w : World) (e : Ending) (w' : World) : Prop :=
  ((r = true ∧ ∃ v, e = .returned (.tuple #[v, .bool true]) ∧ GrF w' w.heap.size v n xs) ∨ (r = false ∧ e = .returned (.tuple #[.slice none 0 0, .bool false]))) ∧ Below w.heap.size w w'
end Go.Proofs.YtdcomnnpnhinfaaDoor
/- The chain of a matrix: mathematics alone. -/
namespace Go.Proofs.YtdcomnnpnhinfaaDoor
open Go.ChangeShapes Go.WideShapes Go.ChangeAt Go.RowKit

/-- the greatest whole number that is at most x / y -/
def fl (x y : Int) : Int := if y < 0 then (-x) / (-y) else x / y
/-- the chain's next number -/
def chq (a c : Int) : Int := fl (2 * a + c) (2 * c)
/-- The sign of the chain, by a bound of its numbers. -/
def chS : Nat → Int → Int → Int → Int → Int
  | 0, a, _, _, _ => a
  | f + 1, a, b, c, d => if c = 0 then a else chS f c d (chq a c * c - a) (chq a c * d - b)
/-- The numbers of the chain, by a bound of how many there are. -/
def chL : Nat → Int → Int → Int → Int → List Int
  | 0, a, b, _, _ => [a * b]
  | f + 1, a, b, c, d => if c = 0 then [a * b] else chq a c :: chL f c d (chq a c * c - a) (chq a c * d - b)

theorem fl_floor {x y : Int} (hy : y ≠ 0) : (0 < y ∧ fl x y * y ≤ x ∧ x < fl x y * y + y) ∨ (y < 0 ∧ x ≤ fl x y * y ∧ fl x y * y + y < x) := by
  unfold fl
  by_cases h : y < 0
  · rw [if_pos h]
    right
    have h1 := Int.mul_ediv_add_emod (-x) (-y)
    have h2 := Int.emod_nonneg (-x) (show -y ≠ 0 by omega)
    have h3 := Int.emod_lt_of_pos (-x) (show 0 < -y by omega)
    have h4 : (-y) * ((-x) / (-y)) = -((-x) / (-y) * y) := by rw [Int.neg_mul, Int.mul_comm]
    omega
  · rw [if_neg h]
    left
    have h1 := Int.mul_ediv_add_emod x y
    have h2 := Int.emod_nonneg x hy
    have h3 := Int.emod_lt_of_pos x (show 0 < y by omega)
    rw [Int.mul_comm] at h1
    omega
/-- What the quotient rounded to zero and its rest tell. -/
theorem fl_up {x y : Int} (hy : y ≠ 0) (h : x.tmod y ≠ 0 ∧ (x < 0 ↔ ¬ y < 0)) : x.tdiv y - 1 = fl x y := by
  have e := Int.mul_tdiv_add_tmod x y
  rw [Int.mul_comm] at e
  have b1 : (x.tmod y).natAbs = x.natAbs % y.natAbs := Int.natAbs_tmod x y
  have b2 : x.natAbs % y.natAbs < y.natAbs := Nat.mod_lt _ (by omega)
  have hs : (0 ≤ x → 0 ≤ x.tmod y) ∧ (x ≤ 0 → x.tmod y ≤ 0) := by
    refine ⟨fun h => Int.tmod_nonneg y h, fun h => ?_⟩
    have := Int.tmod_nonneg y (show 0 ≤ -x by omega)
    rw [Int.neg_tmod] at this
    omega
  have key : ∀ q q' : Int, ((0 < y ∧ q * y ≤ x ∧ x < q * y + y) ∨ (y < 0 ∧ x ≤ q * y ∧ q * y + y < x)) → ((0 < y ∧ q' * y ≤ x ∧ x < q' * y + y) ∨ (y < 0 ∧ x ≤ q' * y ∧ q' * y + y < x)) → q = q' := by
    intro q q' h1 h2
    have h3 : (q - q') * y = q * y - q' * y := Int.sub_mul _ _ _
    have h4 : ((q - q') * y).natAbs < y.natAbs := by omega
    rw [Int.natAbs_mul] at h4
    have h5 : (q - q').natAbs = 0 := by
      rcases Nat.eq_zero_or_pos (q - q').natAbs with h | h
      · exact h
      · have := Nat.mul_le_mul_right y.natAbs h; omega
    omega
  refine key _ _ ?_ (fl_floor hy)
  have h3 : (x.tdiv y - 1) * y = x.tdiv y * y - y := by rw [Int.sub_mul, Int.one_mul]
  omega
theorem fl_same {x y : Int} (hy : y ≠ 0) (h : ¬ (x.tmod y ≠ 0 ∧ (x < 0 ↔ ¬ y < 0))) : x.tdiv y = fl x y := by
  have e := Int.mul_tdiv_add_tmod x y
  rw [Int.mul_comm] at e
  have b1 : (x.tmod y).natAbs = x.natAbs % y.natAbs := Int.natAbs_tmod x y
  have b2 : x.natAbs % y.natAbs < y.natAbs := Nat.mod_lt _ (by omega)
  have hs : (0 ≤ x → 0 ≤ x.tmod y) ∧ (x ≤ 0 → x.tmod y ≤ 0) := by
    refine ⟨fun h => Int.tmod_nonneg y h, fun h => ?_⟩
    have := Int.tmod_nonneg y (show 0 ≤ -x by omega)
    rw [Int.neg_tmod] at this
    omega
  have key : ∀ q q' : Int, ((0 < y ∧ q * y ≤ x ∧ x < q * y + y) ∨ (y < 0 ∧ x ≤ q * y ∧ q * y + y < x)) → ((0 < y ∧ q' * y ≤ x ∧ x < q' * y + y) ∨ (y < 0 ∧ x ≤ q' * y ∧ q' * y + y < x)) → q = q' := by
    intro q q' h1 h2
    have h3 : (q - q') * y = q * y - q' * y := Int.sub_mul _ _ _
    have h4 : ((q - q') * y).natAbs < y.natAbs := by omega
    rw [Int.natAbs_mul] at h4
    have h5 : (q - q').natAbs = 0 := by
      rcases Nat.eq_zero_or_pos (q - q').natAbs with h | h
      · exact h
      · have := Nat.mul_le_mul_right y.natAbs h; omega
    omega
  refine key _ _ ?_ (fl_floor hy)
  omega

/-- A matrix' numbers, as the chain takes them. -/
def Det (a b c d : Int) : Prop := Ent a ∧ Ent b ∧ Ent c ∧ Ent d ∧ a * d - b * c = 1
theorem det_next {a b c d : Int} (h : Det a b c d) (hc : c ≠ 0) :
    Ent (chq a c) ∧ Det c d (chq a c * c - a) (chq a c * d - b) ∧ (chq a c * c - a).natAbs < c.natAbs := by
  obtain ⟨ha, hb, hcc, hd, e⟩ := h
  unfold Ent at ha hb hcc hd
  have hf := fl_floor (x := 2 * a + c) (y := 2 * c) (by omega)
  have hq : fl (2 * a + c) (2 * c) = chq a c := rfl
  rw [hq] at hf
  clear hq
  obtain ⟨q, hq⟩ : ∃ q, chq a c = q := ⟨_, rfl⟩
  rw [hq] at hf ⊢
  have h2 : q * (2 * c) = 2 * (q * c) := by grind
  rw [h2] at hf
  have hc2 : 2 * (q * c - a).natAbs ≤ c.natAbs := by omega
  have hC : 1 ≤ c.natAbs := by omega
  have hdet : c * (q * d - b) - d * (q * c - a) = 1 := by
    have : c * (q * d - b) - d * (q * c - a) = a * d - b * c := by grind
    rw [this, e]
  have hqA : q.natAbs ≤ a.natAbs := by
    rcases Nat.lt_or_ge a.natAbs q.natAbs with h | h
    · exfalso
      have h3 : (q * c).natAbs = q.natAbs * c.natAbs := Int.natAbs_mul q c
      have h4 : (a.natAbs + 1) * c.natAbs ≤ q.natAbs * c.natAbs := Nat.mul_le_mul_right _ h
      have h5 : (a.natAbs + 1) * c.natAbs = a.natAbs * c.natAbs + c.natAbs := by rw [Nat.add_mul, Nat.one_mul]
      have h6 : a.natAbs * 1 ≤ a.natAbs * c.natAbs := Nat.mul_le_mul_left _ hC
      omega
    · exact h
  have hdA : 2 * (q * d - b).natAbs ≤ d.natAbs + 2 := by
    rcases Nat.lt_or_ge (d.natAbs + 2) (2 * (q * d - b).natAbs) with h | h
    · exfalso
      have h3 : (c * (q * d - b)).natAbs = c.natAbs * (q * d - b).natAbs := Int.natAbs_mul _ _
      have h4 : (d * (q * c - a)).natAbs = d.natAbs * (q * c - a).natAbs := Int.natAbs_mul _ _
      have h5 : d.natAbs * (2 * (q * c - a).natAbs) ≤ d.natAbs * c.natAbs := Nat.mul_le_mul_left _ hc2
      have h6 : c.natAbs * (d.natAbs + 3) ≤ c.natAbs * (2 * (q * d - b).natAbs) := Nat.mul_le_mul_left _ h
      have h7 : c.natAbs * (d.natAbs + 3) = d.natAbs * c.natAbs + 3 * c.natAbs := by rw [Nat.mul_add, Nat.mul_comm c.natAbs d.natAbs, Nat.mul_comm c.natAbs 3]
      have h8 : d.natAbs * (2 * (q * c - a).natAbs) = 2 * (d.natAbs * (q * c - a).natAbs) := by rw [Nat.mul_left_comm]
      have h9 : c.natAbs * (2 * (q * d - b).natAbs) = 2 * (c.natAbs * (q * d - b).natAbs) := by rw [Nat.mul_left_comm]
      omega
    · exact h
  refine ⟨by unfold Ent; omega, ⟨by unfold Ent; omega, by unfold Ent; omega, by unfold Ent; omega, by unfold Ent; omega, hdet.symm ▸ (by grind)⟩, by omega⟩
theorem ch_end {f : Nat} {a b d : Int} : chS f a b 0 d = a ∧ chL f a b 0 d = [a * b] := by
  cases f
  · exact ⟨rfl, rfl⟩
  · exact ⟨by rw [chS, if_pos rfl], by rw [chL, if_pos rfl]⟩
theorem ch_go {f : Nat} {a b c d : Int} (hc : c ≠ 0) : chS (f + 1) a b c d = chS f c d (chq a c * c - a) (chq a c * d - b) ∧
    chL (f + 1) a b c d = chq a c :: chL f c d (chq a c * c - a) (chq a c * d - b) := ⟨by rw [chS, if_neg hc], by rw [chL, if_neg hc]⟩
theorem det_last {a b d : Int} (h : Det a b 0 d) : (a = 1 ∨ a = -1) ∧ Ent (a * b) := by
  obtain ⟨ha, hb, hcc, hd, e⟩ := h
  have h3 : a * d = 1 := by omega
  have h4 : a.natAbs * d.natAbs = 1 := by rw [← Int.natAbs_mul, h3]; rfl
  have h5 := Nat.eq_one_of_mul_eq_one_right h4
  have : a = 1 ∨ a = -1 := by omega
  refine ⟨this, ?_⟩
  unfold Ent at *
  rcases this with rfl | rfl <;> omega
theorem chL_len (f : Nat) : ∀ a b c d : Int, (chL f a b c d).length ≤ f + 1 := by
  induction f with
  | zero => intro a b c d; simp [chL]
  | succ f ih =>
    intro a b c d
    rw [chL]
    split
    · simp
    · have := ih c d (chq a c * c - a) (chq a c * d - b)
      simp only [List.length_cons]; omega
end Go.Proofs.YtdcomnnpnhinfaaDoor
/- Contracts of the quotients rounded down. -/
namespace Go.Proofs.YtdcomnnpnhinfaaDoor
open Go.ChangeShapes Go.WideShapes Go.ChangeAt Go.RowKit

/-- small enough for quotients -/
def Sm (x : Int) : Prop := -4000000000 ≤ x ∧ x ≤ 4000000000
theorem tdiv_sm {x y : Int} (hx : Sm x) : Sm (x.tdiv y) := by
  have h1 : (x.tdiv y).natAbs = x.natAbs / y.natAbs := Int.natAbs_tdiv x y
  have h2 : x.natAbs / y.natAbs ≤ x.natAbs := Nat.div_le_self _ _
  unfold Sm at *
  omega
theorem fl_pos_up {x y : Int} (hy : 0 < y) (h : x.tmod y < 0) : x.tdiv y - 1 = fl x y := by
  refine fl_up (by omega) ⟨by omega, ?_⟩
  have : x < 0 := by
    rcases Int.lt_or_le x 0 with h1 | h1
    · exact h1
    · have := Int.tmod_nonneg y h1; omega
  omega
theorem fl_pos_same {x y : Int} (hy : 0 < y) (h : ¬ x.tmod y < 0) : x.tdiv y = fl x y := by
  refine fl_same (by omega) (fun hh => ?_)
  have hx : x < 0 := by have := hh.2; omega
  have h2 := Int.tmod_nonneg y (show 0 ≤ -x by omega)
  rw [Int.neg_tmod] at h2
  have := hh.1
  omega
theorem fl_neg {x y : Int} (hy : y < 0) : fl x y = fl (-x) (-y) := by
  unfold fl
  rw [if_pos hy, if_neg (by omega)]

set_option maxHeartbeats 1000000 in
theorem implFl_0nn (x y q r : Int) (hx : Sm x) (hyb : Sm y) (hq : x.tdiv y = q) (hr : x.tmod y = r) (qb : Sm q) (h0 : r = 0) (hxs : x < 0) (hys : y < 0) (w : World) :
    Calls Tryd.prog 96 #[(.int .i64 x), (.int .i64 y)] w fun e w' => e = .returned (.int .i64 q) ∧ w = w' := by
  obtain ⟨_, _⟩ := hx
  obtain ⟨_, _⟩ := hyb
  obtain ⟨_, _⟩ := qb
  have hy0 : (y == 0) = false := by simp; omega
  subst h0
  have b1 : decide (x < 0) = true := by simpa using hxs
  have b2 : decide (y < 0) = true := by first | exact decide_eq_true hys | exact decide_eq_false (by omega)
  go_enter Tryd.func96, Tryd.ntmps96
  go_wp2
  go_ret
  exact ⟨rfl, rfl⟩
set_option maxHeartbeats 1000000 in
theorem implFl_0np (x y q r : Int) (hx : Sm x) (hyb : Sm y) (hq : x.tdiv y = q) (hr : x.tmod y = r) (qb : Sm q) (h0 : r = 0) (hxs : x < 0) (hys : 0 < y) (w : World) :
    Calls Tryd.prog 96 #[(.int .i64 x), (.int .i64 y)] w fun e w' => e = .returned (.int .i64 q) ∧ w = w' := by
  obtain ⟨_, _⟩ := hx
  obtain ⟨_, _⟩ := hyb
  obtain ⟨_, _⟩ := qb
  have hy0 : (y == 0) = false := by simp; omega
  subst h0
  have b1 : decide (x < 0) = true := by simpa using hxs
  have b2 : decide (y < 0) = false := by first | exact decide_eq_true hys | exact decide_eq_false (by omega)
  go_enter Tryd.func96, Tryd.ntmps96
  go_wp2
  go_ret
  exact ⟨rfl, rfl⟩
set_option maxHeartbeats 1000000 in
theorem implFl_0pn (x y q r : Int) (hx : Sm x) (hyb : Sm y) (hq : x.tdiv y = q) (hr : x.tmod y = r) (qb : Sm q) (h0 : r = 0) (hxs : 0 ≤ x) (hys : y < 0) (w : World) :
    Calls Tryd.prog 96 #[(.int .i64 x), (.int .i64 y)] w fun e w' => e = .returned (.int .i64 q) ∧ w = w' := by
  obtain ⟨_, _⟩ := hx
  obtain ⟨_, _⟩ := hyb
  obtain ⟨_, _⟩ := qb
  have hy0 : (y == 0) = false := by simp; omega
  subst h0
  have b1 : decide (x < 0) = false := by simpa using hxs
  have b2 : decide (y < 0) = true := by first | exact decide_eq_true hys | exact decide_eq_false (by omega)
  go_enter Tryd.func96, Tryd.ntmps96
  go_wp2
  go_ret
  exact ⟨rfl, rfl⟩
set_option maxHeartbeats 1000000 in
theorem implFl_0pp (x y q r : Int) (hx : Sm x) (hyb : Sm y) (hq : x.tdiv y = q) (hr : x.tmod y = r) (qb : Sm q) (h0 : r = 0) (hxs : 0 ≤ x) (hys : 0 < y) (w : World) :
    Calls Tryd.prog 96 #[(.int .i64 x), (.int .i64 y)] w fun e w' => e = .returned (.int .i64 q) ∧ w = w' := by
  obtain ⟨_, _⟩ := hx
  obtain ⟨_, _⟩ := hyb
  obtain ⟨_, _⟩ := qb
  have hy0 : (y == 0) = false := by simp; omega
  subst h0
  have b1 : decide (x < 0) = false := by simpa using hxs
  have b2 : decide (y < 0) = false := by first | exact decide_eq_true hys | exact decide_eq_false (by omega)
  go_enter Tryd.func96, Tryd.ntmps96
  go_wp2
  go_ret
  exact ⟨rfl, rfl⟩
set_option maxHeartbeats 1000000 in
theorem implFl_1nn (x y q r : Int) (hx : Sm x) (hyb : Sm y) (hq : x.tdiv y = q) (hr : x.tmod y = r) (qb : Sm q) (h0 : r ≠ 0) (hxs : x < 0) (hys : y < 0) (w : World) :
    Calls Tryd.prog 96 #[(.int .i64 x), (.int .i64 y)] w fun e w' => e = .returned (.int .i64 q) ∧ w = w' := by
  obtain ⟨_, _⟩ := hx
  obtain ⟨_, _⟩ := hyb
  obtain ⟨_, _⟩ := qb
  have hy0 : (y == 0) = false := by simp; omega
  have h0 : (r == 0) = false := by simpa using h0
  have b0 : (r != 0) = true := by simp at h0; simpa using h0
  have b1 : decide (x < 0) = true := by simpa using hxs
  have b2 : decide (y < 0) = true := by first | exact decide_eq_true hys | exact decide_eq_false (by omega)
  go_enter Tryd.func96, Tryd.ntmps96
  go_wp2
  go_ret
  exact ⟨rfl, rfl⟩
set_option maxHeartbeats 1000000 in
theorem implFl_1np (x y q r : Int) (hx : Sm x) (hyb : Sm y) (hq : x.tdiv y = q) (hr : x.tmod y = r) (qb : Sm q) (h0 : r ≠ 0) (hxs : x < 0) (hys : 0 < y) (w : World) :
    Calls Tryd.prog 96 #[(.int .i64 x), (.int .i64 y)] w fun e w' => e = .returned (.int .i64 (q - 1)) ∧ w = w' := by
  obtain ⟨_, _⟩ := hx
  obtain ⟨_, _⟩ := hyb
  obtain ⟨_, _⟩ := qb
  have hy0 : (y == 0) = false := by simp; omega
  have h0 : (r == 0) = false := by simpa using h0
  have b0 : (r != 0) = true := by simp at h0; simpa using h0
  have b1 : decide (x < 0) = true := by simpa using hxs
  have b2 : decide (y < 0) = false := by first | exact decide_eq_true hys | exact decide_eq_false (by omega)
  go_enter Tryd.func96, Tryd.ntmps96
  go_wp2
  go_ret
  exact ⟨rfl, rfl⟩
set_option maxHeartbeats 1000000 in
theorem implFl_1pn (x y q r : Int) (hx : Sm x) (hyb : Sm y) (hq : x.tdiv y = q) (hr : x.tmod y = r) (qb : Sm q) (h0 : r ≠ 0) (hxs : 0 ≤ x) (hys : y < 0) (w : World) :
    Calls Tryd.prog 96 #[(.int .i64 x), (.int .i64 y)] w fun e w' => e = .returned (.int .i64 (q - 1)) ∧ w = w' := by
  obtain ⟨_, _⟩ := hx
  obtain ⟨_, _⟩ := hyb
  obtain ⟨_, _⟩ := qb
  have hy0 : (y == 0) = false := by simp; omega
  have h0 : (r == 0) = false := by simpa using h0
  have b0 : (r != 0) = true := by simp at h0; simpa using h0
  have b1 : decide (x < 0) = false := by simpa using hxs
  have b2 : decide (y < 0) = true := by first | exact decide_eq_true hys | exact decide_eq_false (by omega)
  go_enter Tryd.func96, Tryd.ntmps96
  go_wp2
  go_ret
  exact ⟨rfl, rfl⟩
set_option maxHeartbeats 1000000 in
theorem implFl_1pp (x y q r : Int) (hx : Sm x) (hyb : Sm y) (hq : x.tdiv y = q) (hr : x.tmod y = r) (qb : Sm q) (h0 : r ≠ 0) (hxs : 0 ≤ x) (hys : 0 < y) (w : World) :
    Calls Tryd.prog 96 #[(.int .i64 x), (.int .i64 y)] w fun e w' => e = .returned (.int .i64 q) ∧ w = w' := by
  obtain ⟨_, _⟩ := hx
  obtain ⟨_, _⟩ := hyb
  obtain ⟨_, _⟩ := qb
  have hy0 : (y == 0) = false := by simp; omega
  have h0 : (r == 0) = false := by simpa using h0
  have b0 : (r != 0) = true := by simp at h0; simpa using h0
  have b1 : decide (x < 0) = false := by simpa using hxs
  have b2 : decide (y < 0) = false := by first | exact decide_eq_true hys | exact decide_eq_false (by omega)
  go_enter Tryd.func96, Tryd.ntmps96
  go_wp2
  go_ret
  exact ⟨rfl, rfl⟩
theorem implFl_any (x y : Int) (hx : Sm x) (hyb : Sm y) (hy : y ≠ 0) (w : World) :
    Calls Tryd.prog 96 #[(.int .i64 x), (.int .i64 y)] w fun e w' => e = .returned (.int .i64 (fl x y)) ∧ w = w' := by
  have qb := tdiv_sm (y := y) hx
  rcases (show y < 0 ∨ 0 < y by omega) with hys | hys <;> rcases (show x < 0 ∨ 0 ≤ x by omega) with hxs | hxs <;> by_cases h0 : x.tmod y = 0
  · rw [← (fl_same hy (by omega))]; exact implFl_0nn x y _ _ hx hyb rfl rfl qb h0 hxs hys w
  · rw [← (fl_same hy (by omega))]; exact implFl_1nn x y _ _ hx hyb rfl rfl qb h0 hxs hys w
  · rw [← (fl_same hy (by omega))]; exact implFl_0pn x y _ _ hx hyb rfl rfl qb h0 hxs hys w
  · rw [← (fl_up hy ⟨h0, by omega⟩)]; exact implFl_1pn x y _ _ hx hyb rfl rfl qb h0 hxs hys w
  · rw [← (fl_same hy (by omega))]; exact implFl_0np x y _ _ hx hyb rfl rfl qb h0 hxs hys w
  · rw [← (fl_up hy ⟨h0, by omega⟩)]; exact implFl_1np x y _ _ hx hyb rfl rfl qb h0 hxs hys w
  · rw [← (fl_same hy (by omega))]; exact implFl_0pp x y _ _ hx hyb rfl rfl qb h0 hxs hys w
  · rw [← (fl_same hy (by omega))]; exact implFl_1pp x y _ _ hx hyb rfl rfl qb h0 hxs hys w
end Go.Proofs.YtdcomnnpnhinfaaDoor
/- The runs of a positive matrix: mathematics alone. -/
namespace Go.Proofs.YtdcomnnpnhinfaaDoor
open Go.ChangeShapes Go.WideShapes Go.ChangeAt Go.RowKit

/-- none less than 0 -/
def Pos (a b c d : Int) : Prop := 0 ≤ a ∧ 0 ≤ b ∧ 0 ≤ c ∧ 0 ≤ d ∧ a ≤ 1000000000 ∧ b ≤ 1000000000 ∧ c ≤ 1000000000 ∧ d ≤ 1000000000 ∧ a * d - b * c = 1
/-- a bound of how many runs there are -/
def msr (a b c d : Int) : Nat := (a + b + c + d).toNat + (if b < d ∧ 0 < c then 1 else 0)
/-- The runs, by a bound of how many there are. -/
def runsF : Nat → Int → Int → Int → Int → List Int
  | 0, _, _, _, _ => []
  | f + 1, a, b, c, d => if a = 1 ∧ b = 0 ∧ c = 0 ∧ d = 1 then [] else b / d :: runsF f d c (b - b / d * d) (a - b / d * c)

theorem pos_d {a b c d : Int} (h : Pos a b c d) : 1 ≤ d ∧ 1 ≤ a := by
  obtain ⟨ha, hb, hc, hd, _, _, _, _, e⟩ := h
  have h1 : 0 ≤ b * c := Int.mul_nonneg hb hc
  constructor
  · rcases Int.lt_or_le 0 d with h | h
    · omega
    · obtain rfl : d = 0 := by omega
      simp at e; omega
  · rcases Int.lt_or_le 0 a with h | h
    · omega
    · obtain rfl : a = 0 := by omega
      simp at e; omega
theorem pos_facts {a b c d : Int} (h : Pos a b c d) : 0 ≤ b / d ∧ b / d ≤ b ∧ 0 ≤ b - b / d * d ∧ b - b / d * d < d ∧ b - b / d * d ≤ b ∧ b / d * c ≤ a ∧ 0 ≤ b / d * c ∧ (c = 0 ∨ b / d ≤ a / c) := by
  obtain ⟨hd1, ha1⟩ := pos_d h
  obtain ⟨ha, hb, hc, hd, _, _, _, _, e⟩ := h
  have q0 : 0 ≤ b / d := Int.ediv_nonneg hb hd
  have q1 : b / d ≤ b := Int.ediv_le_self d hb
  have q2 : b - b / d * d = b % d := by have := Int.mul_ediv_add_emod b d; rw [Int.mul_comm] at this; omega
  have q3 : 0 ≤ b % d := Int.emod_nonneg b (by omega)
  have q4 : b % d < d := Int.emod_lt_of_pos b (by omega)
  have q5 : 0 ≤ b / d * d := Int.mul_nonneg q0 hd
  have q6 : 0 ≤ b / d * c := Int.mul_nonneg q0 hc
  have q7 : b / d * c ≤ a := by
    rcases Int.lt_or_le a (b / d * c) with h | h
    · exfalso
      have h1 : (a + 1) * d ≤ b / d * c * d := Int.mul_le_mul_of_nonneg_right (by omega) hd
      have h2 : b / d * d * c ≤ b * c := Int.mul_le_mul_of_nonneg_right (by omega) hc
      have h3 : b / d * c * d = b / d * d * c := by rw [Int.mul_assoc, Int.mul_comm c d, ← Int.mul_assoc]
      have h4 : (a + 1) * d = a * d + d := by rw [Int.add_mul, Int.one_mul]
      omega
    · exact h
  refine ⟨q0, q1, by omega, by omega, by omega, q7, q6, ?_⟩
  by_cases hc0 : c = 0
  · exact .inl hc0
  · exact .inr ((Int.le_ediv_iff_mul_le (by omega)).2 q7)
theorem pos_next {a b c d : Int} (h : Pos a b c d) : Pos d c (b - b / d * d) (a - b / d * c) := by
  obtain ⟨q0, q1, q2, q3, q4, q5, q6, _⟩ := pos_facts h
  obtain ⟨ha, hb, hc, hd, _, _, _, _, e⟩ := h
  refine ⟨hd, hc, q2, by omega, by omega, by omega, by omega, by omega, ?_⟩
  have h1 : d * (a - b / d * c) - c * (b - b / d * d) = a * d - b * c := by grind
  rw [h1, e]
theorem msr_next {a b c d : Int} (h : Pos a b c d) (hn : ¬ (a = 1 ∧ b = 0 ∧ c = 0 ∧ d = 1)) : msr d c (b - b / d * d) (a - b / d * c) < msr a b c d := by
  obtain ⟨q0, q1, q2, q3, q4, q5, q6, _⟩ := pos_facts h
  obtain ⟨hd1, ha1⟩ := pos_d h
  obtain ⟨ha, hb, hc, hd, _, _, _, _, e⟩ := h
  by_cases hq : b / d = 0
  · rw [hq] at q2 q3 q4 q5 q6 ⊢
    simp only [Int.zero_mul, Int.sub_zero] at *
    have hbd : b < d := q3
    have hca : ¬ c < a := by
      intro hca
      have h1 : (c + 1) * (b + 1) ≤ a * d := Int.mul_le_mul (by omega) (by omega) (by omega) (by omega)
      have h2 : (c + 1) * (b + 1) = b * c + c + b + 1 := by grind
      have hb0 : b = 0 := by omega
      have hc0 : c = 0 := by omega
      subst hb0 hc0
      have h3 : a * d = 1 := by omega
      have h4 : a.natAbs * d.natAbs = 1 := by rw [← Int.natAbs_mul, h3]; rfl
      have h5 := Nat.eq_one_of_mul_eq_one_right h4
      have h6 := Nat.eq_one_of_mul_eq_one_left h4
      exact hn ⟨by omega, rfl, rfl, by omega⟩
    have hc1 : 0 < c := by
      rcases Int.lt_or_le 0 c with h | h
      · exact h
      · exfalso
        obtain rfl : c = 0 := by omega
        have h3 : a * d = 1 := by omega
        have h4 : a.natAbs * d.natAbs = 1 := by rw [← Int.natAbs_mul, h3]; rfl
        have h5 := Nat.eq_one_of_mul_eq_one_right h4
        have h6 := Nat.eq_one_of_mul_eq_one_left h4
        exact hn ⟨by omega, by omega, rfl, by omega⟩
    unfold msr
    rw [if_neg (by omega), if_pos ⟨hbd, hc1⟩]
    omega
  · have h1 : d ≤ b / d * d := by
      have := Int.mul_le_mul_of_nonneg_right (show 1 ≤ b / d by omega) hd
      omega
    have h2 : c ≤ b / d * c := by
      have := Int.mul_le_mul_of_nonneg_right (show 1 ≤ b / d by omega) hc
      omega
    by_cases hc1 : 0 < c
    · unfold msr
      split <;> split <;> omega
    · obtain rfl : c = 0 := by omega
      have h3 : a * d = 1 := by omega
      have h4 : a.natAbs * d.natAbs = 1 := by rw [← Int.natAbs_mul, h3]; rfl
      have h6 := Nat.eq_one_of_mul_eq_one_left h4
      obtain rfl : d = 1 := by omega
      unfold msr
      rw [if_neg (by omega), if_neg (by omega)]
      omega
theorem pos_msr {a b c d : Int} (h : Pos a b c d) : msr a b c d ≤ 4000000001 ∧ 1 ≤ msr a b c d := by
  obtain ⟨hd1, ha1⟩ := pos_d h
  obtain ⟨ha, hb, hc, hd, _, _, _, _, e⟩ := h
  unfold msr
  split <;> omega
theorem runsF_unit {f : Nat} : runsF f 1 0 0 1 = [] := by
  cases f
  · rfl
  · rw [runsF, if_pos ⟨rfl, rfl, rfl, rfl⟩]
theorem runsF_go {f : Nat} {a b c d : Int} (hn : ¬ (a = 1 ∧ b = 0 ∧ c = 0 ∧ d = 1)) : runsF (f + 1) a b c d = b / d :: runsF f d c (b - b / d * d) (a - b / d * c) := by
  rw [runsF, if_neg hn]
/-- Numbers on the way stay small, and each is 0 or more. -/
theorem runsF_all (f : Nat) : ∀ {a b c d : Int}, Pos a b c d → ∀ x ∈ runsF f a b c d, 0 ≤ x ∧ x ≤ 1000000000 := by
  induction f with
  | zero => intro a b c d _ x hx; simp [runsF] at hx
  | succ f ih =>
    intro a b c d h x hx
    rw [runsF] at hx
    split at hx
    · simp at hx
    · obtain ⟨q0, q1, _⟩ := pos_facts h
      have := h.2.2.2.2.2.1
      rcases List.mem_cons.1 hx with rfl | hx
      · exact ⟨q0, by omega⟩
      · exact ih (pos_next h) x hx
theorem runsF_len (f : Nat) : ∀ a b c d : Int, (runsF f a b c d).length ≤ f := by
  induction f with
  | zero => intro a b c d; simp [runsF]
  | succ f ih =>
    intro a b c d
    rw [runsF]
    split
    · simp
    · have := ih d c (b - b / d * d) (a - b / d * c)
      simp only [List.length_cons]; omega
/-- A round, put together. -/
theorem runs_round {f : Nat} {a b c d q : Int} (hp : Pos a b c d) (hm : msr a b c d ≤ f) (he : decide (a = 1 ∧ b = 0 ∧ c = 0 ∧ d = 1) = false) (hq : b / d = q) :
    ∃ (k : Nat) (x y : Int), f = k + 1 ∧ a - q * c = x ∧ b - q * d = y ∧ Ent (-q) ∧ Ent a ∧ Ent b ∧ Ent c ∧ Ent d ∧ Hid (runsF f a b c d = q :: runsF k d c y x) ∧ Hid (Pos d c y x) ∧ Hid (msr d c y x ≤ k) := by
  have hn := of_decide_eq_false he
  have h1 := pos_msr hp
  have h2 := msr_next hp hn
  have h3 := pos_next hp
  obtain ⟨q0, q1, _⟩ := pos_facts hp
  obtain ⟨k, rfl⟩ : ∃ k, f = k + 1 := ⟨f - 1, by omega⟩
  have h4 := runsF_go (f := k) hn
  rw [hq] at h2 h3 h4 q0 q1
  obtain ⟨ha, hb, hc, hd, ha', hb', hc', hd', _⟩ := hp
  exact ⟨k, _, _, rfl, rfl, rfl, by unfold Ent; omega, by unfold Ent; omega, by unfold Ent; omega, by unfold Ent; omega, by unfold Ent; omega, Lib.hid h4, Lib.hid h3, Lib.hid (by omega)⟩
end Go.Proofs.YtdcomnnpnhinfaaDoor
/- What '==' says of two matrices. -/
namespace Go.Proofs.YtdcomnnpnhinfaaDoor
open Go.ChangeShapes Go.WideShapes Go.ChangeAt Go.RowKit

theorem eq_mat (a b c d e f g h : Int) (w : World) : (Op.equalIn 10000 58 (.agg #[.int .i64 a, .int .i64 b, .int .i64 c, .int .i64 d]) (.agg #[.int .i64 e, .int .i64 f, .int .i64 g, .int .i64 h])).run Tryd.prog w = .ok (decide (a = e ∧ b = f ∧ c = g ∧ d = h)) w := by
  have u3 := Tryd.underlying2
  have a3 := Tryd.isAgg2
  have z3 := Tryd.sizeOf2
  rw [show (10000 : Nat) = 9999 + 1 from rfl, Op.equalIn]
  simp only [Sem.run_bind, run_underlying Tryd.underlying58, Result.andThen_ok]
  simp only [Std.Legacy.Range.forIn_eq_forIn_range', Std.Legacy.Range.size, Nat.sub_zero, Nat.add_sub_cancel, Nat.div_one, List.range'_succ, List.range'_zero, List.forIn_cons, List.forIn_nil]
  go_simp
  by_cases h1 : a = e <;> by_cases h2 : b = f <;> by_cases h3 : c = g <;> by_cases h4 : d = h <;> simp [h1, h2, h3, h4]
theorem eq_mat_is (r : Bool) (a b c d e f g h : Int) (hr : decide (a = e ∧ b = f ∧ c = g ∧ d = h) = r) (w : World) : (Op.equalIn 10000 58 (.agg #[.int .i64 a, .int .i64 b, .int .i64 c, .int .i64 d]) (.agg #[.int .i64 e, .int .i64 f, .int .i64 g, .int .i64 h])).run Tryd.prog w = .ok r w := hr ▸ eq_mat a b c d e f g h w
end Go.Proofs.YtdcomnnpnhinfaaDoor
/- spec.l02Runs: contract. -/
namespace Go.Proofs.YtdcomnnpnhinfaaDoor
open Go.ChangeShapes Go.WideShapes Go.ChangeAt Go.RowKit

theorem Gr.made (w : World) (L : Nat) (hL : L ≤ w.heap.size) : Gr (w.alloc (.cells #[] 2)) L (.slice (some ⟨w.heap.size, 0, none⟩) 0 0) [] :=
  World.ownsRow_made w #[] 0 hL (by unfold maxLen; omega) (by simp)
theorem Gr.madeAt {w : World} {L g : Nat} (hg : w.heap.size = g) (hL : L ≤ g) : Gr (w.alloc (.cells #[] 2)) L (.slice (some ⟨g, 0, none⟩) 0 0) [] := hg ▸ Gr.made w L (hg ▸ hL)
/-- What the block holds of a state: turned about at odd turns. -/
def Turned (t : Nat) (a b c d e f g h : Int) : Prop := (t % 2 = 0 ∧ a = e ∧ b = f ∧ c = g ∧ d = h) ∨ (t % 2 = 1 ∧ d = e ∧ c = f ∧ b = g ∧ a = h)
/-- What a round of the spec's machine keeps. -/
def RS (w wr : World) (v : Value) (xs : List Int) (e f g h : Int) : Prop := Below w.heap.size w wr ∧ w.heap.size + 1 ≤ wr.heap.size ∧ Gr wr (w.heap.size + 1) v xs ∧ Box wr w.heap.size [.int .i64 e, .int .i64 f, .int .i64 g, .int .i64 h]

set_option maxRecDepth 100000 in
theorem RS.step {w wr w2 : World} {v : Value} {xs : List Int} {e f g h : Int} (hr : RS w wr v xs e f g h) (hb : Below wr.heap.size wr w2) : RS w w2 v xs e f g h :=
  ⟨own_trans hr.1 hb, Nat.le_trans hr.2.1 hb.size, hr.2.2.1.own hb, hr.2.2.2.below hb⟩
theorem RS.drew {w wr : World} {v : Value} {xs : List Int} {e f g h : Int} (hr : RS w wr v xs e f g h) : RS w wr.drew v xs e f g h := ⟨hr.1.drew, hr.2.1, hr.2.2.1, hr.2.2.2⟩
theorem RS.drewN {w wr : World} {v : Value} {xs : List Int} {e f g h : Int} (hr : RS w wr v xs e f g h) (n : Nat) : RS w (wr.drewN n) v xs e f g h := ⟨below_drewN' hr.1 n, hr.2.1, hr.2.2.1, hr.2.2.2⟩
theorem RS.top {w wr : World} {v : Value} {xs : List Int} {e f g h : Int} (hr : RS w wr v xs e f g h) (n : Nat) (x y : Int) :
    RS w (((wr.drewN n).setCell ⟨w.heap.size, 0, none⟩ (.int .i64 x)).setCell ⟨w.heap.size, 1, none⟩ (.int .i64 y)).drew v xs x y g h := by
  have hr := RS.drewN hr n
  refine RS.drew ⟨own_setCell (own_setCell hr.1 (Nat.le_refl _) _) (Nat.le_refl _) _, by simpa [World.setCell] using hr.2.1, (hr.2.2.1.set (Nat.lt_succ_self _) _).set (Nat.lt_succ_self _) _, ?_⟩
  exact (hr.2.2.2.set 0 (by simp) (.int .i64 x)).set 1 (by simp) (.int .i64 y)
theorem RS.bot {w wr : World} {v : Value} {xs : List Int} {e f g h : Int} (hr : RS w wr v xs e f g h) (n : Nat) (x y : Int) :
    RS w (((wr.drewN n).setCell ⟨w.heap.size, 2, none⟩ (.int .i64 x)).setCell ⟨w.heap.size, 3, none⟩ (.int .i64 y)).drew v xs e f x y := by
  have hr := RS.drewN hr n
  refine RS.drew ⟨own_setCell (own_setCell hr.1 (Nat.le_refl _) _) (Nat.le_refl _) _, by simpa [World.setCell] using hr.2.1, (hr.2.2.1.set (Nat.lt_succ_self _) _).set (Nat.lt_succ_self _) _, ?_⟩
  exact (hr.2.2.2.set 2 (by simp) (.int .i64 x)).set 3 (by simp) (.int .i64 y)
theorem RS.four {w wr : World} {v : Value} {xs : List Int} {e f g h : Int} (hr : RS w wr v xs e f g h) :
    wr.cell? ⟨w.heap.size, 0, none⟩ = some (.int .i64 e) ∧ wr.cell? ⟨w.heap.size, 1, none⟩ = some (.int .i64 f) ∧ wr.cell? ⟨w.heap.size, 2, none⟩ = some (.int .i64 g) ∧ wr.cell? ⟨w.heap.size, 3, none⟩ = some (.int .i64 h) ∧
      wr.frozen? ⟨w.heap.size, 0, none⟩ = false ∧ wr.frozen? ⟨w.heap.size, 1, none⟩ = false ∧ wr.frozen? ⟨w.heap.size, 2, none⟩ = false ∧ wr.frozen? ⟨w.heap.size, 3, none⟩ = false := hr.2.2.2.four.2

end Go.Proofs.YtdcomnnpnhinfaaDoor
/- What a call that makes a slice gives back. -/
namespace Go.Proofs.YtdcomnnpnhinfaaDoor
open Go.ChangeShapes Go.WideShapes Go.ChangeAt Go.RowKit

/-- What a call that makes a slice gives back: the slice reads as xs, its memory is new; the code is k. -/
def RetSC (xs : List Int) (k : Int) (w : World) (e : Ending) (w' : World) : Prop :=
  ∃ v, e = .returned (.tuple #[v, (.int .i64 k)]) ∧ Sl w' w.heap.size w'.heap.size v xs ∧ Below w.heap.size w w'
/-- The same with a number ahead of it. -/
def Ret3S (s : Int) (xs : List Int) (k : Int) (w : World) (e : Ending) (w' : World) : Prop :=
  ∃ v, e = .returned (.tuple #[(.int .i64 s), v, (.int .i64 k)]) ∧ Sl w' w.heap.size w'.heap.size v xs ∧ Below w.heap.size w w'
theorem Sl.weak {w : World} {L L' U : Nat} {v : Value} {xs : List Int} (h : Sl w L U v xs) (hL : L' ≤ L) : Sl w L' U v xs := by
  obtain ⟨hu, a, cap, rfl, hc⟩ := h
  refine ⟨hu, a, cap, rfl, fun h0 => ?_⟩
  obtain ⟨g, off, rfl, hg, r⟩ := hc h0
  exact ⟨g, off, rfl, Nat.le_trans hL hg, r⟩
end Go.Proofs.YtdcomnnpnhinfaaDoor
/- A scope with one label that is jumped to: by what holds at each jump. -/
namespace Go.Proofs.YtdcomnnpnhinfaaDoor
open Go.ChangeShapes Go.WideShapes Go.ChangeAt Go.RowKit

theorem jump_mono {l : Nat} {J J' : Act → World → Prop} {Q : Exit → Act → World → Prop} (hJ : ∀ a w, J a w → J' a w) : ∀ (e : Exit) (a : Act) (w : World), Exit.jump l J Q e a w → Exit.jump l J' Q e a w := by
  intro e a w h
  cases e
  case goto l' => exact ⟨h.1, hJ _ _ h.2⟩
  all_goals exact h
theorem scope_jumps {P : Program} {c rest : Code} {Q : Exit → Act → World → Prop} {a : Act} {w : World} (l : Nat) (J : Act → World → Prop) (μ : Act → World → Nat) (hf : findLabel c l = some (Code.skip.seq rest))
    (pass : ∀ a w, J a w → rest.wp P (Exit.jump l (fun a' w' => J a' w' ∧ μ a' w' < μ a w) Q) a w)
    (first : (∀ a w, J a w → rest.wp P (Exit.jump l J Q) a w) → c.wp P (Exit.jump l J Q) a w) : (Code.scope c).wp P Q a w :=
  wp_scope_jumps l J μ hf (first fun a w h => Code.wp_mono (jump_mono fun _ _ h => h.1) (pass a w h)) fun a w h => wp_seq (wp_skip (pass a w h))

end Go.Proofs.YtdcomnnpnhinfaaDoor
/- The continued fraction: mathematics, and the contracts of its parts. -/
namespace Go.Proofs.YtdcomnnpnhinfaaDoor
open Go.ChangeShapes Go.WideShapes Go.ChangeAt Go.RowKit

/-- the rest of x by n -/
def rsM (x n : Int) : Int := (x.tmod n + n) % n
theorem rsM_is (x n : Int) : rsM x n = x % n := by
  unfold rsM
  rw [Int.add_emod_right]
  have e := Int.mul_tdiv_add_tmod x n
  have : x % n = (n * x.tdiv n + x.tmod n) % n := by rw [e]
  rw [this, Int.mul_add_emod_self_left]
theorem fl_pos {x y : Int} (hy : 0 < y) : fl x y = x / y := by unfold fl; rw [if_neg (by omega)]
theorem fl_facts {p q : Int} (hq : 0 < q) (hp : Ent p) (hq' : Ent q) : Ent (fl p q) ∧ 0 ≤ p - fl p q * q ∧ p - fl p q * q < q ∧ p - p % q = fl p q * q ∧ 0 ≤ p % q ∧ p % q < q := by
  rw [fl_pos hq]
  have e := Int.mul_ediv_add_emod p q
  have e1 := Int.emod_nonneg p (show q ≠ 0 by omega)
  have e2 := Int.emod_lt_of_pos p hq
  rw [Int.mul_comm] at e
  unfold Ent at *
  refine ⟨?_, by omega, by omega, by omega, e1, e2⟩
  constructor
  · rw [Int.le_ediv_iff_mul_le hq]
    have : -1000000000 * q ≤ -1000000000 * 1 := Int.mul_le_mul_of_nonpos_left (by omega) (by omega)
    omega
  · refine Int.ediv_le_of_le_mul hq ?_
    have : 1000000000 * 1 ≤ 1000000000 * q := Int.mul_le_mul_of_nonneg_left (by omega) (by omega)
    omega
/-- The continued fraction, by a bound of how many numbers there are. -/
def cfL : Nat → Int → Int → List Int
  | 0, _, _ => []
  | f + 1, p, q => if q ≤ 0 then [] else fl p q :: cfL f q (p - fl p q * q)
theorem cf_zero (f : Nat) (p : Int) : cfL f p 0 = [] := by cases f <;> simp [cfL]
theorem cf_len : ∀ (f : Nat) (p q : Int), (cfL f p q).length ≤ f
  | 0, _, _ => by simp [cfL]
  | f + 1, p, q => by
    unfold cfL
    split
    · simp
    · simp [cf_len f]
theorem cf_round {f : Nat} {p q : Int} (hq : 0 < q) (hp : Ent p) (hq' : Ent q) (hf : q.natAbs ≤ f) :
    ∃ (k : Nat) (n r : Int), f = k + 1 ∧ fl p q = n ∧ p - n * q = r ∧ Ent n ∧ 0 ≤ r ∧ r < q ∧ Ent r ∧ Hid (cfL f p q = n :: cfL k q r) ∧ r.natAbs ≤ k := by
  obtain ⟨h1, h2, h3, _⟩ := fl_facts hq hp hq'
  obtain ⟨k, rfl⟩ : ∃ k, f = k + 1 := ⟨f - 1, by omega⟩
  refine ⟨k, _, _, rfl, rfl, rfl, h1, h2, h3, by unfold Ent at *; omega, Lib.hid ?_, by omega⟩
  rw [cfL, if_neg (by omega)]
theorem floor_exact {a b : Int} (hb : 0 < b) (ha : Ent a) (hb' : Ent b) : (a - rsM a b).tdiv b = fl a b := by
  obtain ⟨_, _, _, h4, _⟩ := fl_facts hb ha hb'
  rw [rsM_is, h4]
  exact Int.mul_tdiv_cancel _ (by omega)

theorem sm_of_ent {x : Int} (h : Ent x) : Sm x := by unfold Ent at h; unfold Sm; omega
theorem rsM_bd {x n : Int} (hn : 1 ≤ n) : -n < x.tmod n ∧ x.tmod n < n := by
  have h3 : (x.tmod n).natAbs = x.natAbs % n.natAbs := Int.natAbs_tmod x n
  have h4 : x.natAbs % n.natAbs < n.natAbs := Nat.mod_lt _ (by omega)
  omega
theorem modE_is (x n r : Int) (hr : rsM x n = r) (h1 : 0 < n) (hn : Ent n) (hx : Ent x) (w : World) :
    Calls Tryd.prog 59 #[(.int .i64 x), (.int .i64 n)] w fun e w' => e = .returned (.int .i64 r) ∧ w = w' := by
  obtain ⟨_, _⟩ := hx
  obtain ⟨_, _⟩ := hn
  obtain ⟨_, _⟩ := rsM_bd (x := x) (show 1 ≤ n by omega)
  have h3 : 0 ≤ x.tmod n + n := by omega
  have HR : Hid ((x.tmod n + n) % n = r) := Lib.hid hr
  clear hr
  go_enter Tryd.func59, Tryd.ntmps59
  go_wp2
  go_ret
  exact ⟨ret_int HR.out, rfl⟩
theorem implFlC_is (q x y : Int) (hq : fl x y = q) (hx : Sm x) (hyb : Sm y) (hy : y ≠ 0) (w : World) :
    Calls Tryd.prog 96 #[(.int .i64 x), (.int .i64 y)] w fun e w' => e = .returned (.int .i64 q) ∧ w = w' := hq ▸ implFl_any x y hx hyb hy w
/-- what a round of the machine keeps -/
def RC (w wr : World) (v : Value) (xs : List Int) : Prop := Below w.heap.size w wr ∧ w.heap.size + 1 ≤ wr.heap.size ∧ Gr wr (w.heap.size + 1) v xs

/-- What holds at each jump to the machine's label. -/
def JC (F : Nat) (p0 q0 : Int) (w : World) (act : Act) (wx : World) : Prop :=
  ∃ (done : List Int) (f : Nat) (p q : Int) (sv v6 v7 v8 v9 v10 v11 v12 v13 v14 v15 v16 v17 v18 v19 v20 v21 v22 v23 v24 v25 v26 : Value), act = { tmps := #[(.agg #[.int .i64 p0, .int .i64 q0]), .pointer (some ⟨w.heap.size, 0, none⟩), .slice none 0 0, sv, (.int .i64 p), (.int .i64 q), v6, v7, v8, v9, v10, v11, v12, v13, v14, v15, v16, v17, v18, v19, v20, v21, v22, v23, v24, v25, v26], defers := [] } ∧
    cfL F p0 q0 = done ++ cfL f p q ∧ Ent p ∧ Ent q ∧ 0 < q ∧ q.natAbs ≤ f ∧ f + done.length ≤ F ∧ RC w wx sv done
def muC (F : Nat) (act : Act) : Nat := F - lenOf (act.tmps.getD 3 undef)

set_option maxRecDepth 1000000 in
set_option maxHeartbeats 8000000 in
theorem implCf_any (F : Nat) (p0 q0 : Int) (hp : Ent p0) (hq : Ent q0) (h0 : 0 < q0) (hf : q0.natAbs ≤ F) (hF : F ≤ 1000000000) (w : World) :
    Calls Tryd.prog 74 #[(.agg #[.int .i64 p0, .int .i64 q0])] w fun e w' => ∃ v, e = .returned v ∧ Gr w' (w.heap.size + 1) v (cfL F p0 q0) ∧ Below w.heap.size w w' := by
  have HE0 := Lib.hid (show Ent p0 ∧ Ent q0 ∧ 0 < q0 from ⟨hp, hq, h0⟩)
  clear hp hq h0
  go_enter Tryd.func74, Tryd.ntmps74
  go_wp2
  refine scope_jumps 0 (JC F p0 q0 w) (fun act _ => muC F act) rfl ?pass ?first
  case first =>
    intro pass
    go_wp2
    go_quiet (fail)
    go_wp2
    go_step3
    rename_i hK
    exact hK _ _ (pass _ _ ⟨[], F, p0, q0, _, _, _, _, _, _, _, _, _, _, _, _, _, _, _, _, _, _, _, _, _, _, rfl, rfl, HE0.out.1, HE0.out.2.1, HE0.out.2.2, hf, by first | (simp; done) | exact Nat.le_refl _, by repeat (first | with_reducible exact own_refl _ | with_reducible assumption | with_reducible apply own_alloc | with_reducible apply own_drewN | with_reducible apply own_drew | ((with_reducible refine own_setCell ?_ ?_ _); rotate_left; focus (first | (simp; done) | (simp; omega))) | (with_reducible (refine own_trans ?_ (by assumption)))), by simp, Gr.nil _ _⟩)
  case pass =>
    rintro act wx ⟨done, f, p, q, sv, v6, v7, v8, v9, v10, v11, v12, v13, v14, v15, v16, v17, v18, v19, v20, v21, v22, v23, v24, v25, v26, rfl, hL, hp, hq, hq0, hcf, hlen, T, hz, hG⟩
    obtain ⟨k, n, r, hfk, hn, hr, en, r1, r2, er, H1, H2⟩ := cf_round hq0 hp hq hcf
    have HL := Lib.hid hL
    have HN := Lib.hid hn
    have HK := Lib.hid hfk
    have HE := Lib.hid (show Ent p ∧ Ent q ∧ 0 < q from ⟨hp, hq, hq0⟩)
    have h2 := Lib.hid H2
    obtain ⟨ad, cap, hv⟩ := hG.shape
    subst hv
    have hb1 : -2000000000 ≤ n * q ∧ n * q ≤ 2000000000 := by unfold Ent at hp hq; omega
    obtain ⟨_, _⟩ := hb1
    have S3 := Lib.hid (show q ≠ 0 by omega)
    unfold Ent at hp hq er en
    obtain ⟨_, _⟩ := hp
    obtain ⟨_, _⟩ := hq
    obtain ⟨_, _⟩ := er
    obtain ⟨_, _⟩ := en
    clear hfk hn H2 hL hcf
    rcases (show r = 0 ∨ (0 < r ∧ (r != 0) = true) by simp; omega) with h | ⟨hr0, hr1⟩
    · subst h
      go_wp2_with fail
      refine (implFlC_is n p q HN.out (sm_of_ent HE.out.1) (sm_of_ent HE.out.2.1) S3.out _).mono ?_
      rintro e w2 ⟨rfl, rfl⟩
      go_wp2_with (at_builtin; refine app64 rfl _ _ rfl (w.heap.size + 1) wx (.slice ad done.length cap) done n rfl hG wx.heap.size rfl rfl (by omega) hz ?_; intro v' w1 hG1 hb1)
      simp only [Exit.jump]
      go_ret
      refine ⟨_, rfl, ?_, T.trans (hb1.mono (Nat.le_succ _))⟩
      rw [HL.out, H1.out, cf_zero]
      exact hG1
    · have HR0 := Lib.hid hr0
      go_wp2_with fail
      refine (implFlC_is n p q HN.out (sm_of_ent HE.out.1) (sm_of_ent HE.out.2.1) S3.out _).mono ?_
      rintro e w2 ⟨rfl, rfl⟩
      go_wp2_with (at_builtin; refine app64 rfl _ _ rfl (w.heap.size + 1) wx (.slice ad done.length cap) done n rfl hG wx.heap.size rfl rfl (by omega) hz ?_; intro v' w1 hG1 hb1)
      go_step3
      refine ⟨rfl, ⟨done ++ [n], k, q, r, v', _, _, _, _, _, _, _, _, _, _, _, _, _, _, _, _, _, _, _, _, _, rfl, by rw [HL.out, H1.out]; simp, HE.out.2.1, by unfold Ent; omega, HR0.out, h2.out, by have := HK.out; simp; omega, T.trans (hb1.mono (Nat.le_succ _)), Nat.le_trans hz hb1.size, hG1⟩, ?_⟩
      have hl := hG1.len
      have := HK.out
      simp [muC, lenOf] at hl ⊢
      omega
end Go.Proofs.YtdcomnnpnhinfaaDoor
/- Convergents of a fraction are no greater than it: mathematics. -/
namespace Go.Proofs.YtdcomnnpnhinfaaDoor
open Go.ChangeShapes Go.WideShapes Go.ChangeAt Go.RowKit

/-- The convergents from two on. -/
def cvF : Int × Int → Int × Int → List Int → List (Int × Int)
  | _, _, [] => []
  | b, f, x :: r => stepC b f x :: cvF f (stepC b f x) r
def cstF (s : (Int × Int) × (Int × Int)) (xs : List Int) : (Int × Int) × (Int × Int) := xs.foldl (fun s x => (s.2, stepC s.1 s.2 x)) s
theorem cvF_snoc : ∀ (xs : List Int) (b f : Int × Int) (x : Int), cvF b f (xs ++ [x]) = cvF b f xs ++ [(cstF (b, f) (xs ++ [x])).2]
  | [], b, f, x => rfl
  | y :: r, b, f, x => by
    show stepC b f y :: cvF f (stepC b f y) (r ++ [x]) = stepC b f y :: (cvF f (stepC b f y) r ++ _)
    rw [cvF_snoc r]
    rfl
theorem snoc_ind {p : List Int → Prop} (h0 : p []) (h1 : ∀ xs x, p xs → p (xs ++ [x])) : ∀ xs, p xs := by
  intro xs
  rw [← List.reverse_reverse xs]
  induction xs.reverse with
  | nil => exact h0
  | cons x r ih => rw [List.reverse_cons]; exact h1 _ _ ih
theorem cvs_cvF (xs : List Int) : cvs xs = cvF (0, 1) (1, 0) xs := by
  refine snoc_ind (p := fun xs => cvs xs = cvF (0, 1) (1, 0) xs) rfl (fun xs x ih => ?_) xs
  rw [cvs_snoc, cvF_snoc, ih]
  rfl
theorem stepC_in {b f : Int × Int} {x y0 y1 : Int} (h0 : x * f.1 + b.1 = y0) (h1 : x * f.2 + b.2 = y1) (hx : Ent x) (hf0 : Ent f.1) (hf1 : Ent f.2) (hb0 : Ent b.1) (hb1 : Ent b.2) : stepC b f x = (y0, y1) := by
  have m : ∀ {u v : Int}, Ent u → Ent v → -1000000000000000000 ≤ u * v ∧ u * v ≤ 1000000000000000000 := fun {u v} hu hv => by
    have h1 : (u * v).natAbs ≤ 1000000000 * 1000000000 := by
      rw [Int.natAbs_mul]
      exact Nat.mul_le_mul (by unfold Ent at hu; omega) (by unfold Ent at hv; omega)
    omega
  have e0 := m hx hf0
  have e1 := m hx hf1
  unfold Ent at *
  unfold stepC
  rw [IntWalk.wrap64_in (x * f.1) (by omega), IntWalk.wrap64_in (x * f.2) (by omega), IntWalk.wrap64_in _ (by omega), IntWalk.wrap64_in _ (by omega), h0, h1]
/-- Of two numbers with like signs, neither is beyond what they make. -/
theorem like_bd {u v s t p : Int} (h : u * s + v * t = p) (hs : 1 ≤ s) (ht : 0 ≤ t) (hsg : (0 ≤ u ∧ 0 ≤ v) ∨ (u ≤ 0 ∧ v ≤ 0)) (hp : Ent p) : Ent u := by
  unfold Ent at *
  rcases hsg with ⟨h1, h2⟩ | ⟨h1, h2⟩
  · have e1 := Int.mul_le_mul_of_nonneg_left hs h1
    have e2 := Int.mul_nonneg h2 ht
    omega
  · have e1 := Int.mul_le_mul_of_nonneg_left hs (show 0 ≤ -u by omega)
    have e2 := Int.mul_nonneg (show 0 ≤ -v by omega) ht
    simp only [Int.neg_mul, Int.mul_one] at e1 e2
    omega
theorem cv_run : ∀ (F : Nat) (p q x y : Int) (b f : Int × Int), Ent p → Ent q → Ent x → Ent y → 0 ≤ x → 0 ≤ y → Ent f.1 → Ent f.2 → Ent b.1 → Ent b.2 →
    f.1 * x + b.1 * y = p → f.2 * x + b.2 * y = q → 0 ≤ f.2 → 0 ≤ b.2 → ((0 ≤ f.1 ∧ 0 ≤ b.1) ∨ (f.1 ≤ 0 ∧ b.1 ≤ 0)) → (cvF b f (cfL F x y)).all okQ = true := by
  intro F
  induction F with
  | zero => intros; rfl
  | succ F ih =>
    intro p q x y b f ep eq ex ey hx hy ef0 ef1 eb0 eb1 h0 h1 hf hb hs
    rcases (show y = 0 ∨ 0 < y by omega) with hy0 | hy0
    · subst hy0; rw [cf_zero]; rfl
    have e := Int.mul_ediv_add_emod x y
    rw [Int.mul_comm] at e
    have r1 := Int.emod_nonneg x (show y ≠ 0 by omega)
    have r2 := Int.emod_lt_of_pos x hy0
    have n0 : 0 ≤ x / y := Int.ediv_nonneg hx hy
    have n1 : x / y ≤ x := Int.ediv_le_self _ hx
    rw [cfL, if_neg (by omega), fl_pos hy0]
    have hr : x - x / y * y = x % y := by omega
    rw [hr]
    generalize x / y = n at *
    generalize x % y = r at *
    have hn : Ent n := by unfold Ent at *; omega
    obtain ⟨y0, hy0'⟩ : ∃ y0, n * f.1 + b.1 = y0 := ⟨_, rfl⟩
    obtain ⟨y1, hy1'⟩ : ∃ y1, n * f.2 + b.2 = y1 := ⟨_, rfl⟩
    have k0 : y0 * y + f.1 * r = p := by rw [← h0, ← hy0', ← e]; grind
    have k1 : y1 * y + f.2 * r = q := by rw [← h1, ← hy1', ← e]; grind
    have s1 : 0 ≤ y1 := by have := Int.mul_nonneg n0 hf; omega
    have s0 : (0 ≤ y0 ∧ 0 ≤ f.1) ∨ (y0 ≤ 0 ∧ f.1 ≤ 0) := by
      rcases hs with ⟨h1, h2⟩ | ⟨h1, h2⟩
      · have := Int.mul_nonneg n0 h1; exact .inl ⟨by omega, h1⟩
      · have := Int.mul_nonneg n0 (show 0 ≤ -f.1 by omega)
        rw [Int.mul_neg] at this
        exact .inr ⟨by omega, h1⟩
    have b0 := like_bd k0 (by omega) r1 s0 ep
    have b1 := like_bd k1 (by omega) r1 (.inl ⟨s1, hf⟩) eq
    have hst : stepC b f n = (y0, y1) := stepC_in hy0' hy1' hn ef0 ef1 eb0 eb1
    rw [cvF, hst]
    refine List.all_eq_true.2 fun z hz => ?_
    rcases List.mem_cons.1 hz with rfl | hz
    · simpa [okQ, inW, Ent] using And.intro b0 b1
    · exact List.all_eq_true.1 (ih p q y r f (y0, y1) ep eq ey (by unfold Ent at *; omega) (by omega) r1 b0 b1 ef0 ef1 k0 k1 s1 hf s0) z hz
theorem cv_fine (F : Nat) (p q : Int) (ep : Ent p) (eq : Ent q) (hq : 0 ≤ q) : (cvs (cfL F p q)).all okQ = true := by
  rw [cvs_cvF]
  rcases Int.lt_or_le p 0 with hp | hp
  · cases F with
    | zero => rfl
    | succ F =>
      rcases (show q = 0 ∨ 0 < q by omega) with h | h
      · subst h; rw [cf_zero]; rfl
      have e := Int.mul_ediv_add_emod p q
      rw [Int.mul_comm] at e
      have r1 := Int.emod_nonneg p (show q ≠ 0 by omega)
      have r2 := Int.emod_lt_of_pos p h
      have n0 : p / q < 0 := Int.ediv_neg_of_neg_of_pos hp h
      have n1 : p ≤ p / q := by
        rw [Int.le_ediv_iff_mul_le h]
        have := Int.mul_le_mul_of_nonneg_left (show 1 ≤ q by omega) (show 0 ≤ -p by omega)
        simp only [Int.neg_mul, Int.mul_one] at this
        omega
      rw [cfL, if_neg (by omega), fl_pos h]
      have hr : p - p / q * q = p % q := by omega
      rw [hr]
      generalize p / q = n at *
      generalize p % q = r at *
      have en : Ent n := by unfold Ent at *; omega
      have hst : stepC (0, 1) (1, 0) n = (n, 1) := stepC_in (by simp) (by simp) en (by simp [Ent]) (by simp [Ent]) (by simp [Ent]) (by simp [Ent])
      rw [cvF, hst]
      refine List.all_eq_true.2 fun z hz => ?_
      rcases List.mem_cons.1 hz with rfl | hz
      · simpa [okQ, inW, Ent] using en
      refine (fun hall : (cvF (1, 0) (n, 1) (cfL F q r)).all okQ = true => List.all_eq_true.1 hall z hz) ?_
      clear hz
      cases F with
      | zero => rfl
      | succ F =>
        rcases (show r = 0 ∨ 0 < r by omega) with h2 | h2
        · subst h2; rw [cf_zero]; rfl
        have e' := Int.mul_ediv_add_emod q r
        rw [Int.mul_comm] at e'
        have t1 := Int.emod_nonneg q (show r ≠ 0 by omega)
        have t2 := Int.emod_lt_of_pos q h2
        have m0 : 1 ≤ q / r := by rw [Int.le_ediv_iff_mul_le h2]; omega
        have m1 : q / r ≤ q := Int.ediv_le_self _ hq
        rw [cfL, if_neg (by omega), fl_pos h2]
        have hr' : q - q / r * r = q % r := by omega
        rw [hr']
        generalize q / r = m at *
        generalize q % r = t at *
        have em : Ent m := by unfold Ent at *; omega
        have hneg : m * n + 1 ≤ 0 := by
          have := Int.mul_le_mul_of_nonneg_right m0 (show 0 ≤ -n by omega)
          simp only [Int.mul_neg, Int.one_mul] at this
          omega
        have k0 : (m * n + 1) * r + n * t = p := by rw [← e, ← e']; grind
        have k1 : m * r + 1 * t = q := by omega
        have b0 := like_bd k0 (by omega) t1 (.inr ⟨hneg, by omega⟩) ep
        have hst2 : stepC (1, 0) (n, 1) m = (m * n + 1, m) := stepC_in rfl (by simp) em en (by simp [Ent]) (by simp [Ent]) (by simp [Ent])
        rw [cvF, hst2]
        refine List.all_eq_true.2 fun z hz => ?_
        rcases List.mem_cons.1 hz with rfl | hz
        · simpa [okQ, inW, Ent] using And.intro b0 em
        · exact List.all_eq_true.1 (cv_run F p q r t (n, 1) (m * n + 1, m) ep eq (by unfold Ent at *; omega) (by unfold Ent at *; omega) (by omega) t1 b0 em en (by simp [Ent]) k0 k1 (by simp only; omega) (by simp) (.inr ⟨hneg, by simp only; omega⟩)) z hz
  · exact cv_run F p q p q (0, 1) (1, 0) ep eq ep eq hp hq (by simp [Ent]) (by simp [Ent]) (by simp [Ent]) (by simp [Ent]) (by simp) (by simp) (by simp) (by simp) (.inl ⟨by simp, by simp⟩)
end Go.Proofs.YtdcomnnpnhinfaaDoor
/- The matrix that leads infinity to a fraction: convergents' determinants, and the last one. Mathematics only (its first part is XMxI's and XChF's: never import both). -/
namespace Go.Proofs.YtdcomnnpnhinfaaDoor
open Go.ChangeShapes Go.WideShapes Go.ChangeAt Go.RowKit

theorem cst_okQ {xs done : List Int} {n : Int} (hall : (cvs xs).all okQ = true) (hp : done ++ [n] <+: xs) : Ent (cst (done ++ [n])).2.1 ∧ Ent (cst (done ++ [n])).2.2 := by
  obtain ⟨t, rfl⟩ := hp
  have h1 : cvs (done ++ [n]) <+: cvs (done ++ [n] ++ t) := by
    have := cvs_prefix (done ++ [n] ++ t) (done ++ [n]).length
    rwa [List.take_left] at this
  have h2 : (cst (done ++ [n])).2 ∈ cvs (done ++ [n] ++ t) := h1.subset (by rw [cvs_snoc]; simp)
  have h3 := List.all_eq_true.1 hall _ h2
  simpa [okQ, inW, Ent] using h3
/-- the sign of a chain's k-th pair -/
def sg : Nat → Int
  | 0 => 1
  | k + 1 => - sg k
theorem sg_or : ∀ k, sg k = 1 ∨ sg k = -1
  | 0 => .inl rfl
  | k + 1 => by
    rcases sg_or k with h | h
    · exact .inr (by simp [sg, h])
    · exact .inl (by simp [sg, h])
theorem sg_sq (k : Nat) : sg k * sg k = 1 := by rcases sg_or k with h | h <;> simp [h]
theorem wrap64_ex (x : Int) : ∃ t : Int, wrap64 x = x + 18446744073709551616 * t := by
  unfold wrap64
  exact ⟨-((x + 9223372036854775808) / 18446744073709551616), by omega⟩
/-- what stands ahead of place k, and at it -/
theorem cst_take_succ {xs : List Int} {k : Nat} (hk : k < xs.length) : cst (xs.take (k + 1)) = ((cst (xs.take k)).2, stepC (cst (xs.take k)).1 (cst (xs.take k)).2 (xs.getD k 0)) := by
  rw [take_snoc xs k hk _ rfl, cst_snoc]
theorem det_cst {xs : List Int} (hall : (cvs xs).all okQ = true) : ∀ k, k ≤ xs.length → (Ent (cst (xs.take k)).2.1 ∧ Ent (cst (xs.take k)).2.2) ∧ (Ent (cst (xs.take k)).1.1 ∧ Ent (cst (xs.take k)).1.2) ∧ (cst (xs.take k)).2.1 * (cst (xs.take k)).1.2 - (cst (xs.take k)).2.2 * (cst (xs.take k)).1.1 = sg k
  | 0, _ => by
    simp [cst, sg, Ent]
  | k + 1, hk => by
    obtain ⟨⟨e1, e2⟩, ⟨e3, e4⟩, h⟩ := det_cst hall k (by omega)
    have hE := cst_okQ (done := xs.take k) (n := xs.getD k 0) hall (by rw [← take_snoc xs k (by omega) _ rfl]; exact List.take_prefix _ _)
    rw [← take_snoc xs k (by omega) _ rfl] at hE
    refine ⟨hE, ?_⟩
    rw [cst_take_succ (by omega)] at hE ⊢
    refine ⟨⟨e1, e2⟩, ?_⟩
    generalize cst (xs.take k) = a at *
    obtain ⟨⟨b1, b2⟩, p, q⟩ := a
    simp only [stepC] at *
    obtain ⟨t1, h1⟩ := wrap64_ex (xs.getD k 0 * p)
    obtain ⟨t2, h2⟩ := wrap64_ex (wrap64 (xs.getD k 0 * p) + b1)
    obtain ⟨t3, h3⟩ := wrap64_ex (xs.getD k 0 * q)
    obtain ⟨t4, h4⟩ := wrap64_ex (wrap64 (xs.getD k 0 * q) + b2)
    have m1 := ent_mul hE.1 e2
    have m2 := ent_mul hE.2 e1
    have hs := sg_or k
    have key : wrap64 (wrap64 (xs.getD k 0 * p) + b1) * q - wrap64 (wrap64 (xs.getD k 0 * q) + b2) * p + sg k = 18446744073709551616 * ((t1 + t2) * q - (t3 + t4) * p) := by
      rw [h2, h4, h1, h3, ← h]
      grind
    generalize (t1 + t2) * q - (t3 + t4) * p = z at key
    generalize wrap64 (wrap64 (xs.getD k 0 * p) + b1) * q = A at *
    generalize wrap64 (wrap64 (xs.getD k 0 * q) + b2) * p = B at *
    simp only [sg]
    omega
/-- the numbers of the chain's fraction k -/
def pd (xs : List Int) (k : Nat) : Int := (cst (xs.take k)).2.1
def qd (xs : List Int) (k : Nat) : Int := (cst (xs.take k)).2.2
theorem pq_ent {xs : List Int} (hall : (cvs xs).all okQ = true) {k : Nat} (hk : k ≤ xs.length) : Ent (pd xs k) ∧ Ent (qd xs k) := (det_cst hall k hk).1
theorem pq_det {xs : List Int} (hall : (cvs xs).all okQ = true) {k : Nat} (hk : k < xs.length) : pd xs (k + 1) * qd xs k - qd xs (k + 1) * pd xs k = sg (k + 1) := by
  have h := (det_cst hall (k + 1) (by omega)).2.2
  rw [cst_take_succ hk] at h
  have e1 : pd xs (k + 1) = (stepC (cst (xs.take k)).1 (cst (xs.take k)).2 (xs.getD k 0)).1 := by unfold pd; rw [cst_take_succ hk]
  have e2 : qd xs (k + 1) = (stepC (cst (xs.take k)).1 (cst (xs.take k)).2 (xs.getD k 0)).2 := by unfold qd; rw [cst_take_succ hk]
  rw [e1, e2]
  exact h
theorem gcd_emodM (p q : Int) : Int.gcd q (p % q) = Int.gcd p q := by
  rw [Int.gcd_comm, Int.emod_def, Int.sub_eq_add_neg, ← Int.mul_neg]
  simp
/-- the last convergent, but for multiples of 2 to the 64 -/
theorem cstF_end : ∀ (F : Nat) (x y : Int) (b f : Int × Int), 0 ≤ y → y.natAbs ≤ F → Int.gcd x y = 1 → (0 < y ∨ x = 1) →
    ∃ t1 t2 : Int, (cstF (b, f) (cfL F x y)).2.1 = x * f.1 + y * b.1 + 18446744073709551616 * t1 ∧ (cstF (b, f) (cfL F x y)).2.2 = x * f.2 + y * b.2 + 18446744073709551616 * t2
  | F, x, y, b, f, hy, hF, hg, ho => by
    rcases (show y = 0 ∨ 0 < y by omega) with h0 | h0
    · subst h0
      rw [cf_zero]
      have : x = 1 := by omega
      subst this
      exact ⟨0, 0, by simp [cstF], by simp [cstF]⟩
    · match F, hF with
      | 0, hF => omega
      | F + 1, hF =>
        have e := Int.mul_ediv_add_emod x y
        rw [Int.mul_comm] at e
        have r1 := Int.emod_nonneg x (show y ≠ 0 by omega)
        have r2 := Int.emod_lt_of_pos x h0
        have hr : x - x / y * y = x % y := by omega
        have hg2 := gcd_emodM x y
        rw [hg] at hg2
        rw [cfL, if_neg (by omega), fl_pos h0, hr]
        obtain ⟨t1, t2, h1, h2⟩ := cstF_end F y (x % y) f (stepC b f (x / y)) r1 (by omega) hg2 (by
          rcases (show x % y = 0 ∨ 0 < x % y by omega) with h | h
          · rw [h, Int.gcd_zero_right] at hg2
            exact .inr (by omega)
          · exact .inl h)
        have e3 : cstF (b, f) (x / y :: cfL F y (x % y)) = cstF (f, stepC b f (x / y)) (cfL F y (x % y)) := rfl
        rw [e3]
        obtain ⟨u1, k1⟩ := wrap64_ex (x / y * f.1)
        obtain ⟨u2, k2⟩ := wrap64_ex (wrap64 (x / y * f.1) + b.1)
        obtain ⟨u3, k3⟩ := wrap64_ex (x / y * f.2)
        obtain ⟨u4, k4⟩ := wrap64_ex (wrap64 (x / y * f.2) + b.2)
        rw [h1, h2]
        simp only [stepC]
        refine ⟨t1 + y * (u1 + u2), t2 + y * (u3 + u4), ?_, ?_⟩
        · rw [k2, k1]
          generalize x / y = n at *
          generalize x % y = r at *
          rw [← e]
          grind
        · rw [k4, k3]
          generalize x / y = n at *
          generalize x % y = r at *
          rw [← e]
          grind
/-- the last convergent of a fraction is the fraction -/
theorem cst_last {p q : Int} (hp : Ent p) (hq : Ent q) (h0 : 0 < q) (hg : Int.gcd p q = 1) : (cst (cfL q.natAbs p q)).2 = (p, q) := by
  have hall := cv_fine q.natAbs p q hp hq (by omega)
  obtain ⟨t1, t2, h1, h2⟩ := cstF_end q.natAbs p q (0, 1) (1, 0) (by omega) (Nat.le_refl _) hg (.inl h0)
  have e : cstF ((0, 1), (1, 0)) (cfL q.natAbs p q) = cst (cfL q.natAbs p q) := rfl
  rw [e] at h1 h2
  have hE := (det_cst hall (cfL q.natAbs p q).length (Nat.le_refl _)).1
  rw [List.take_length] at hE
  unfold Ent at hE hp hq
  simp only [Int.mul_one, Int.mul_zero, Int.add_zero, Int.zero_add] at h1 h2
  refine Prod.ext ?_ ?_ <;> simp only <;> omega
end Go.Proofs.YtdcomnnpnhinfaaDoor
