/- What is left of a list when rows are taken off it: mathematics. -/
import Derived.Test.YtejghidllochoaaDoorEch
import Derived.Test.YtejghidllochoaaDoorRsB
import Derived.Test.YtejghidllochoaaDoorNm
import Derived.Test.YtejghidllochoaaDoorGr
import Derived.Test.YtejghidllochoaaDoorRlI
import Derived.Test.YtejghidllochoaaDoorMxU
namespace Go.Proofs.YtejghidllochoaaDoor
open Go.ChangeShapes Go.WideShapes Go.ChangeAt Go.RowKit
open Ech (Sp Rw Stair)

def gv (l : List Int) (k : Nat) : Int := l.getD k 0
/-- the rows that there are -/
def RE (N : Nat) (E : Nat → Option (List Int)) (r : Nat → Int) : Prop := ∃ i, i < N ∧ ∃ xs, E i = some xs ∧ r = gv xs
def with1 (R : (Nat → Int) → Prop) (x : Nat → Int) (r : Nat → Int) : Prop := R r ∨ r = x
/-- rests modulo p -/
def Rp (p : Int) (N : Nat) (l : List Int) : Prop := l.length = N ∧ ∀ k, k < N → 0 ≤ gv l k ∧ gv l k < p
/-- rows as they stand: in stairs -/
def Rows8 (p : Int) (N : Nat) (E : Nat → Option (List Int)) : Prop := ∀ i, i < N → ∀ xs, E i = some xs → Rp p N xs ∧ (∀ k, k < i → gv xs k = 0) ∧ gv xs i ≠ 0
/-- What taking rows off a list keeps, when k places are done. -/
def TI (p : Int) (N : Nat) (E : Nat → Option (List Int)) (x : Nat → Int) (ys : List Int) (k : Nat) : Prop :=
  Rp p N ys ∧ (∀ j, j < k → j < N → gv ys j = 0) ∧ Sp p N (with1 (RE N E) x) (gv ys) ∧ Sp p N (with1 (RE N E) (gv ys)) x
theorem rst_dvd {x p : Int} (hp : 1 ≤ p) : p ∣ rst x p - x := by
  rw [rst_emod x p hp]
  have := Int.mul_ediv_add_emod x p
  exact ⟨-(x / p), by rw [Int.mul_neg]; omega⟩
theorem TI.start {p : Int} {N : Nat} {E : Nat → Option (List Int)} {x : Nat → Int} {ys : List Int} (hp : 1 ≤ p) (hl : ys.length = N) (h : ∀ j, j < N → gv ys j = rst (x j) p) : TI p N E x ys 0 := by
  refine ⟨⟨hl, fun k hk => ?_⟩, fun j hj => by omega, ?_, ?_⟩
  · rw [h k hk]; exact rst_bd hp
  · exact (Sp.mem (.inr rfl)).congr fun k hk => by rw [h k hk]; exact rst_dvd hp
  · exact (Sp.mem (.inr rfl)).congr fun k hk => by
      have := Int.dvd_neg.2 (rst_dvd (x := x k) hp)
      rw [h k hk]
      rwa [Int.neg_sub] at this
theorem TI.skip {p : Int} {N : Nat} {E : Nat → Option (List Int)} {x : Nat → Int} {ys : List Int} {k : Nat} (h : TI p N E x ys k) (hz : gv ys k = 0) : TI p N E x ys (k + 1) := by
  obtain ⟨h1, h2, h3, h4⟩ := h
  refine ⟨h1, fun j hj hjN => ?_, h3, h4⟩
  rcases (show j = k ∨ j < k by omega) with rfl | h
  · exact hz
  · exact h2 j h hjN
theorem TI.take {p : Nat} (hp5 : Ech.fiveP p) {N : Nat} {E : Nat → Option (List Int)} {x : Nat → Int} {ys zs e : List Int} {k : Nat} (hE : Rows8 p N E) (h : TI p N E x ys k) (hk : k < N) (he : E k = some e)
    (hl : zs.length = N) (hz : ∀ j, j < N → gv zs j = rst (gv e k * gv ys j - gv ys k * gv e j) p) : TI p N E x zs (k + 1) := by
  have hp : (1 : Int) ≤ p := by rcases hp5 with rfl | rfl | rfl | rfl | rfl <;> omega
  obtain ⟨h1, h2, h3, h4⟩ := h
  obtain ⟨e1, e2, e3⟩ := hE k hk e he
  have hrow : ∀ q, RE N E q → with1 (RE N E) x q := fun q h => .inl h
  have hmem : RE N E (gv e) := ⟨k, hk, e, he, rfl⟩
  have hdv : ∀ j, j < N → (p : Int) ∣ gv zs j - (gv e k * gv ys j - gv ys k * gv e j) := fun j hj => by rw [hz j hj]; exact rst_dvd hp
  refine ⟨⟨hl, fun j hj => by rw [hz j hj]; exact rst_bd hp⟩, fun j hj hjN => ?_, ?_, ?_⟩
  · rw [hz j hjN, rst_emod _ _ hp]
    rcases (show j = k ∨ j < k by omega) with rfl | h
    · rw [Int.mul_comm, Int.sub_self, Int.zero_emod]
    · rw [h2 j h hjN, e2 j h]; simp
  · refine Sp.lin (x := fun j => gv e k * gv ys j) (-(gv ys k)) (Sp.lin (x := fun _ => 0) (gv e k) (.zero _ fun _ _ => ⟨0, by simp⟩) h3 fun j _ => ⟨0, by simp⟩) (Sp.mem (hrow _ hmem)) fun j hj => ?_
    have := hdv j hj
    refine Ech.dvd_eq this ?_
    rw [Int.neg_mul]
    omega
  · have hu : ¬ (p : Int) ∣ gv e k := fun hd => by
      obtain ⟨a, b⟩ := e1.2 k hk
      obtain ⟨c, hc⟩ := hd
      rcases (show c ≤ 0 ∨ 1 ≤ c by omega) with h | h
      · have := Int.mul_nonneg (show (0 : Int) ≤ p by omega) (show 0 ≤ -c by omega)
        rw [Int.mul_neg] at this
        omega
      · have := Int.mul_le_mul_of_nonneg_left h (show (0 : Int) ≤ p by omega)
        omega
    obtain ⟨v, hv⟩ := Ech.unit_of hp5 _ hu
    have hys : Sp p N (with1 (RE N E) (gv zs)) (gv ys) := by
      refine Sp.unit hv ?_
      refine Sp.lin (gv ys k) (Sp.mem (.inr rfl)) (Sp.mem (.inl hmem)) fun j hj => ?_
      have := Int.dvd_neg.2 (hdv j hj)
      refine Ech.dvd_eq this ?_
      omega
    refine h4.trans fun r hr => ?_
    rcases hr with hr | rfl
    · exact Sp.mem (.inl hr)
    · exact hys
end Go.Proofs.YtejghidllochoaaDoor
/- Comparing slices with nil. -/
namespace Go.Proofs.YtejghidllochoaaDoor
open Go.ChangeShapes Go.WideShapes Go.ChangeAt Go.RowKit
theorem nil_eq (w : World) : Sem.run Tryd.prog (binOp BinOp.eql 31 (.slice none 0 0) (.slice none 0 0)) w = .ok (.bool true) w := by kernel_rfl
theorem nil_ne (w : World) : Sem.run Tryd.prog (binOp BinOp.neq 31 (.slice none 0 0) (.slice none 0 0)) w = .ok (.bool false) w := by kernel_rfl
set_option maxRecDepth 100000 in
theorem some_eq (a : Addr) (n c : Nat) (w : World) : Sem.run Tryd.prog (binOp BinOp.eql 31 (.slice (some a) n c) (.slice none 0 0)) w = .ok (.bool false) w := by
  unfold binOp; first | kernel_rfl | simp [go_sem]
set_option maxRecDepth 100000 in
theorem some_ne (a : Addr) (n c : Nat) (w : World) : Sem.run Tryd.prog (binOp BinOp.neq 31 (.slice (some a) n c) (.slice none 0 0)) w = .ok (.bool true) w := by
  unfold binOp; first | kernel_rfl | simp [go_sem]
end Go.Proofs.YtejghidllochoaaDoor
/- (span).takeOff: contract. -/
namespace Go.Proofs.YtejghidllochoaaDoor
open Go.ChangeShapes Go.WideShapes Go.ChangeAt Go.RowKit
open Ech (Sp Rw Stair)

/-- How a row of a span stands in memory. -/
def RowAt (w : World) (U N : Nat) (r : Value) : Option (List Int) → Prop
  | none => r = .slice none 0 0
  | some xs => ∃ g cap, r = .slice (some ⟨g, 0, none⟩) N cap ∧ g < U ∧ xs.length = N ∧ ∀ k, k < N → w.cell? ⟨g, k, none⟩ = some (.int .i64 (gv xs k))
/-- The block b has the rows of a span. -/
def SpB (w : World) (U b N : Nat) (E : Nat → Option (List Int)) : Prop := U ≤ w.heap.size ∧ b < U ∧ ∀ i, i < N → ∃ r, w.cell? ⟨b, i, none⟩ = some r ∧ RowAt w U N r (E i)
theorem RowAt.below {w w' : World} {U N : Nat} {r : Value} {o : Option (List Int)} (h : RowAt w U N r o) (hb : Below U w w') : RowAt w' U N r o := by
  cases o with
  | none => exact h
  | some xs =>
    obtain ⟨g, cap, e, hg, hl, hc⟩ := h
    exact ⟨g, cap, e, hg, hl, fun k hk => (hb.cell (p := ⟨g, k, none⟩) hg).trans (hc k hk)⟩
theorem SpB.below {w w' : World} {U b N : Nat} {E : Nat → Option (List Int)} (h : SpB w U b N E) (hb : Below U w w') : SpB w' U b N E := by
  obtain ⟨h1, h2, h3⟩ := h
  refine ⟨Nat.le_trans h1 hb.size, h2, fun i hi => ?_⟩
  obtain ⟨r, hc, hr⟩ := h3 i hi
  exact ⟨r, (hb.cell (p := ⟨b, i, none⟩) h2).trans hc, hr.below hb⟩
/-- What takeOff gives. -/
def TK (p : Int) (N : Nat) (E : Nat → Option (List Int)) (x : Nat → Int) (ys : List Int) (first : Nat) : Prop :=
  first ≤ N ∧ TI p N E x ys first ∧ (first < N → gv ys first ≠ 0 ∧ E first = none)

theorem mul_bdP {a b : Int} (ha : 0 ≤ a ∧ a ≤ 10006) (hb : 0 ≤ b ∧ b ≤ 10006) : 0 ≤ a * b ∧ a * b ≤ 100120036 := by
  have h1 := Int.mul_nonneg ha.1 hb.1
  have h2 := Int.mul_le_mul ha.2 hb.2 hb.1 (by omega : (0 : Int) ≤ 10006)
  omega
set_option maxRecDepth 100000 in
set_option maxHeartbeats 4000000 in
theorem takeOff_is (p N : Nat) (hp5 : Ech.fiveP p) (hN0 : 0 < N) (hN : N ≤ 72) (E : Nat → Option (List Int)) (hE : Rows8 p N E) (xs : List Int) (hxl : xs.length = N) (hxb : ∀ k, k < N → I64 (gv xs k)) (v : Value) (L U U2 b : Nat) (w : World) (hS : Sl w L U v xs) (hB : SpB w U2 b N E) :
    Calls Tryd.prog 74 #[.agg #[(.int .i64 ((p : Int))), .slice (some ⟨b, 0, none⟩) N N], v] w fun e w' => ∃ r ys first, e = .returned (.tuple #[r, (.int .i64 (((first : Nat) : Int)))]) ∧ Gr w' w.heap.size r ys ∧ TK p N E (gv xs) ys first ∧ Below w.heap.size w w' := by
  have hp1 : 5 ≤ p ∧ p ≤ 10007 := by rcases hp5 with rfl | rfl | rfl | rfl | rfl <;> omega
  obtain ⟨zU, ad, cap, hv, hc⟩ := hS
  subst hv
  rw [hxl] at hc ⊢
  obtain ⟨g, off, rfl, _, hgU, hcell⟩ := hc hN0
  have HX := Lib.hid hcell
  have HXB := Lib.hid hxb
  have HB := Lib.hid hB
  have HP := Lib.hid hp5
  have HE := Lib.hid hE
  have hmk := made64 N (by omega)
  have hgw : g < w.heap.size := by omega
  have hbw : b < w.heap.size := by have := hB.1; have := hB.2.1; omega
  have HXL := Lib.hid hxl
  clear hc hcell hxb hB hp5 hE hxl
  go_enter Tryd.func74, Tryd.ntmps74
  go_wp2
  have G0 : Gr ((w.alloc (.cells #[(.int .i64 ((p : Int))), .slice (some ⟨b, 0, none⟩) N N] 65)).alloc (.cells (Array.replicate N (.int .i64 0)) 2)) w.heap.size (.slice (some ⟨w.heap.size + 1, 0, none⟩) N N) (zer N) := Gr.zer (by simp) (by omega) N (by omega)
  have B0 : Box ((w.alloc (.cells #[(.int .i64 ((p : Int))), .slice (some ⟨b, 0, none⟩) N N] 65)).alloc (.cells (Array.replicate N (.int .i64 0)) 2)) w.heap.size [(.int .i64 ((p : Int))), .slice (some ⟨b, 0, none⟩) N N] := Box.alloc (Box.new _ _ _) _
  have T0 : Below w.heap.size w ((w.alloc (.cells #[(.int .i64 ((p : Int))), .slice (some ⟨b, 0, none⟩) N N] 65)).alloc (.cells (Array.replicate N (.int .i64 0)) 2)) := by repeat (first | with_reducible exact own_refl _ | with_reducible assumption | with_reducible apply own_alloc | with_reducible apply own_drewN | with_reducible apply own_drew | ((with_reducible refine own_setCell ?_ ?_ _); rotate_left; focus (first | (simp; done) | (simp; omega))) | (with_reducible (refine own_trans ?_ (by assumption))))
  generalize (w.alloc (.cells #[(.int .i64 ((p : Int))), .slice (some ⟨b, 0, none⟩) N N] 65)).alloc (.cells (Array.replicate N (.int .i64 0)) 2) = W at *
  go_loopw [19] (fun x wr => ∃ (k : Nat) (ys : List Int), k ≤ N ∧ x = (.int .i64 ((k : Int))) ∧ Gr wr w.heap.size (.slice (some ⟨w.heap.size + 1, 0, none⟩) N N) ys ∧ ys.length = N ∧ Hid (∀ j, j < k → gv ys j = rst (gv xs j) p) ∧ Box wr w.heap.size [(.int .i64 ((p : Int))), .slice (some ⟨b, 0, none⟩) N N] ∧ Below w.heap.size w wr) (fun x _ => N - (intOf x).toNat)
  case atStart => exact ⟨0, _, Nat.zero_le _, rfl, G0, by simp [zer], Lib.hid (fun j hj => by omega), B0, T0⟩
  case round =>
    obtain ⟨k, ys, hk, rfl, hG, hl, HY, B, T⟩ := hrel
    by_cases hlt : k < N
    · obtain ⟨x, hx⟩ : ∃ x, gv xs k = x := ⟨_, rfl⟩
      have c0 := (T.cell (p := ⟨g, off + k, none⟩) hgw).trans (HX.out k hlt).1
      rw [show xs.getD k 0 = x from hx] at c0
      have hx64 := HXB.out k hlt
      rw [hx] at hx64
      obtain ⟨c1, f1⟩ := hG.at hlt
      have HR := Lib.hid (fun w => restOf_big x p (by omega) (by omega) hx64 w)
      have HY2 : Hid (∀ j, j < k + 1 → gv (ys.set k (rst x p)) j = rst (gv xs j) p) := Lib.hid fun j hj => by
        unfold gv
        by_cases e : j = k
        · subst e
          simp [List.getD, hl, hlt]
          rw [← hx]
          rfl
        · have := HY.out j (by omega)
          unfold gv at this
          simpa [List.getD, List.getElem?_set_ne (Ne.symm e)] using this
      have HG : Hid (Gr (wr.setCell ⟨w.heap.size + 1, k, none⟩ (.int .i64 (rst x p))) w.heap.size (.slice (some ⟨w.heap.size + 1, 0, none⟩) N N) (ys.set k (rst x p))) := Lib.hid (by
        have := Gr.putZ (k := k) (y := rst x p) (show Gr wr w.heap.size (.slice (some ⟨w.heap.size + 1, 0, none⟩) ys.length N) ys by rw [hl]; exact hG) (by omega)
        rwa [hl] at this)
      have HBX := Lib.hid (B.far (p := ⟨w.heap.size + 1, k, none⟩) (by dsimp only; omega) (.int .i64 (rst x p)))
      have HT : Hid (Below w.heap.size w (wr.setCell ⟨w.heap.size + 1, k, none⟩ (.int .i64 (rst x p)))) := Lib.hid (own_setCell T (by dsimp only; omega) _)
      obtain ⟨_, b0, b1, _, _⟩ := B.two
      generalize rst x p = y at *
      clear hx hx64 hG
      go_wp2_with fail
      refine (HR.out _).mono ?_
      rintro e w1 ⟨rfl, rfl⟩
      go_wp2
      go_roundw
      case rel => exact ⟨k + 1, _, by omega, by go_num, HG.out, by simp [hl], HY2, HBX.out, HT.out⟩
      case measure => simp [intOf]; omega
    · obtain rfl : N = k := by omega
      have HTI := Lib.hid (TI.start (E := E) (x := gv xs) (show (1 : Int) ≤ (p : Int) by omega) hl (fun j hj => HY.out j hj))
      clear HY
      obtain ⟨_, b0, b1, _, _⟩ := B.two
      go_wp2
      go_loopw [35] (fun x wr => ∃ (k : Nat) (ys : List Int), k ≤ N ∧ x = (.int .i64 ((k : Int))) ∧ Gr wr w.heap.size (.slice (some ⟨w.heap.size + 1, 0, none⟩) N N) ys ∧ Hid (TI p N E (gv xs) ys k) ∧ Box wr w.heap.size [(.int .i64 ((p : Int))), .slice (some ⟨b, 0, none⟩) N N] ∧ Below w.heap.size w wr) (fun x _ => N - (intOf x).toNat)
      case atStart => exact ⟨0, _, Nat.zero_le _, rfl, hG, HTI, B, T⟩
      case round =>
        clear hG HTI B T b0 b1 hl
        obtain ⟨k, ys, hk, rfl, hG, HY, B, T⟩ := hrel
        obtain ⟨_, b0, b1, _, _⟩ := B.two
        by_cases hlt : k < N
        · obtain ⟨r, cr, hr⟩ := (HB.out.below (T.mono HB.out.1)).2.2 k hlt
          obtain ⟨c1, f1⟩ := hG.at hlt
          obtain ⟨y, hy⟩ : ∃ y, gv ys k = y := ⟨_, rfl⟩
          have hyb := HY.out.1.2 k hlt
          rw [hy] at hyb
          rw [show ys.getD k 0 = y from hy] at c1
          have HYK := Lib.hid hy
          clear hy
          by_cases hy0 : y = 0
          · have hy1 : (y == 0) = true := by simp [hy0]
            have HY2 : Hid (TI p N E (gv xs) ys (k + 1)) := Lib.hid (HY.out.skip (by rw [HYK.out]; exact hy0))
            clear hr hy0
            go_wp2
            go_roundw
            case rel => exact ⟨k + 1, ys, by omega, by go_num, hG, HY2, B, T⟩
            case measure => simp [intOf]; omega
          · have hy1 : (y == 0) = false := by simp [hy0]
            rcases hEk : E k with _ | e
            · rw [hEk] at hr
              have hr : r = .slice none 0 0 := hr
              subst hr
              have HEK := Lib.hid hEk
              have HY0 := Lib.hid hy0
              clear hEk hy0
              have hnil := nil_eq
              go_wp2
              go_ret2
              exact ⟨_, ys, k, rfl, hG, ⟨by omega, HY.out, fun _ => ⟨by rw [HYK.out]; exact HY0.out, HEK.out⟩⟩, T⟩
            · rw [hEk] at hr
              obtain ⟨ge, cpe, rfl, hge, hel, hec⟩ := hr
              have HEK := Lib.hid hEk
              have HEB := Lib.hid (HE.out k hlt e hEk).1
              have HEC := Lib.hid hec
              have ce := hec k hlt
              obtain ⟨o, ho⟩ : ∃ o, gv e k = o := ⟨_, rfl⟩
              have hob := HEB.out.2 k hlt
              rw [ho] at ce hob
              have HO := Lib.hid ho
              have hgew : ge < w.heap.size := by have := HB.out.1; omega
              clear hEk hy0 hec ho
              have hnil := some_eq ⟨ge, 0, none⟩ N cpe
              go_upto_region 14 with fail
              go_quiet (fail)
              have hG' : Gr (wr.drewN nq) w.heap.size (.slice (some ⟨w.heap.size + 1, 0, none⟩) N N) ys := hG
              have B' : Box (wr.drewN nq) w.heap.size [(.int .i64 ((p : Int))), .slice (some ⟨b, 0, none⟩) N N] := B.drewN nq
              have T' : Below w.heap.size w (wr.drewN nq) := below_drewN' T nq
              have HEC' : Hid (∀ i, i < N → (wr.drewN nq).cell? ⟨ge, i, none⟩ = some (.int .i64 (gv e i))) := HEC
              clear c1 f1 cr b0 b1 hG B T ce HEC
              generalize wr.drewN nq = wz at *
              have hzz := T'.size
              go_wp2
              go_loopw [59] (fun x w2 => ∃ (i : Nat) (zs : List Int), i ≤ N ∧ x = (.int .i64 ((i : Int))) ∧ Gr w2 w.heap.size (.slice (some ⟨w.heap.size + 1, 0, none⟩) N N) zs ∧ zs.length = N ∧ Hid (∀ j, j < N → gv zs j = if j < i then rst (o * gv ys j - y * gv e j) p else gv ys j) ∧ Box w2 w.heap.size [(.int .i64 ((p : Int))), .slice (some ⟨b, 0, none⟩) N N] ∧ Below w.heap.size w w2 ∧ wz.grownBy w2 (some (w.heap.size + 1))) (fun x _ => N - (intOf x).toNat)
              case atStart => exact ⟨0, ys, Nat.zero_le _, rfl, hG', HY.out.1.1, Lib.hid (fun j _ => by rw [if_neg (by omega)]), B', T', DRR _ _⟩
              case round =>
                clear hG' B' T'
                obtain ⟨i, zs, hi, rfl, hG, hzl, HZ, B, T, hgr⟩ := hrel
                obtain ⟨_, b0, b1, _, _⟩ := B.two
                by_cases hil : i < N
                · obtain ⟨c1, f1⟩ := hG.at hil
                  have hz := HZ.out i hil
                  rw [if_neg (by omega)] at hz
                  rw [show zs.getD i 0 = gv ys i from hz] at c1
                  have hzb := HY.out.1.2 i hil
                  have heb := HEB.out.2 i hil
                  obtain ⟨z, hz1⟩ : ∃ z, gv ys i = z := ⟨_, rfl⟩
                  obtain ⟨d, hd⟩ : ∃ d, gv e i = d := ⟨_, rfl⟩
                  have ce := (grown_cell (o := i) hgr (show ge < wz.heap.size by omega) (by omega)).trans (HEC'.out i hil)
                  rw [hz1] at c1 hzb
                  rw [hd] at ce heb
                  have m1 := mul_bdP (show 0 ≤ o ∧ o ≤ 10006 by omega) (show 0 ≤ z ∧ z ≤ 10006 by omega)
                  have m2 := mul_bdP (show 0 ≤ y ∧ y ≤ 10006 by omega) (show 0 ≤ d ∧ d ≤ 10006 by omega)
                  obtain ⟨q1, hq1⟩ : ∃ q1, o * z = q1 := ⟨_, rfl⟩
                  obtain ⟨q2, hq2⟩ : ∃ q2, y * d = q2 := ⟨_, rfl⟩
                  rw [hq1] at m1
                  rw [hq2] at m2
                  have hw1 : IntKind.i64.wrap (o * z) = q1 := by rw [hq1]; exact IntWalk.i64_in _ (by omega)
                  have hw2 : IntKind.i64.wrap (y * d) = q2 := by rw [hq2]; exact IntWalk.i64_in _ (by omega)
                  have hw3 : IntKind.i64.wrap (q1 - q2) = q1 - q2 := IntWalk.i64_in _ (by omega)
                  have HR := Lib.hid (fun w => restOf_big (q1 - q2) p (by omega) (by omega) (by unfold I64; omega) w)
                  have HZ2 : Hid (∀ j, j < N → gv (zs.set i (rst (q1 - q2) p)) j = if j < i + 1 then rst (o * gv ys j - y * gv e j) p else gv ys j) := Lib.hid fun j hj => by
                    by_cases e1 : j = i
                    · subst e1
                      rw [if_pos (by omega), hz1, hd, hq1, hq2]
                      simp [gv, List.getD, hzl, hj]
                    · have := HZ.out j hj
                      have e2 : gv (zs.set i (rst (q1 - q2) p)) j = gv zs j := by simp [gv, List.getD, List.getElem?_set_ne (Ne.symm e1)]
                      rw [e2, this]
                      by_cases e3 : j < i
                      · rw [if_pos e3, if_pos (by omega)]
                      · rw [if_neg e3, if_neg (by omega)]
                  generalize rst (q1 - q2) p = t at *
                  have HG2 : Hid (Gr (wr.setCell ⟨w.heap.size + 1, i, none⟩ (.int .i64 t)).drew w.heap.size (.slice (some ⟨w.heap.size + 1, 0, none⟩) N N) (zs.set i t)) := Lib.hid (by
                    have := Gr.putZ (k := i) (y := t) (show Gr wr w.heap.size (.slice (some ⟨w.heap.size + 1, 0, none⟩) zs.length N) zs by rw [hzl]; exact hG) (by omega)
                    rw [hzl] at this
                    exact this.drew)
                  have HB2 := Lib.hid (Box.drew (B.far (p := ⟨w.heap.size + 1, i, none⟩) (by dsimp only; omega) (.int .i64 t)))
                  have HT2 : Hid (Below w.heap.size w (wr.setCell ⟨w.heap.size + 1, i, none⟩ (.int .i64 t)).drew) := Lib.hid (own_drew (own_setCell T (by dsimp only; omega) _))
                  have HGR2 : Hid (wz.grownBy (wr.setCell ⟨w.heap.size + 1, i, none⟩ (.int .i64 t)).drew (some (w.heap.size + 1))) := Lib.hid (World.grownBy.trans hgr (World.grownBy.trans (setRow wr ⟨w.heap.size + 1, i, none⟩ (.int .i64 t)) ⟨rfl, rfl, rfl, Nat.le_refl _, fun _ _ _ => rfl⟩))
                  clear hq1 hq2 hz1 hd hG B T hgr hz
                  go_wp2_with fail
                  go_region_with
                    (first | (go_at_call 95; refine (HR.out _).mono ?_; rintro e w3 ⟨rfl, rfl⟩))
                  all_goals
                    go_wp2
                    go_roundw
                    case rel => exact ⟨i + 1, _, by omega, by go_num, HG2.out, by simp [hzl], HZ2, HB2.out, HT2.out, HGR2.out⟩
                    case measure => simp [intOf]; omega
                · obtain rfl : N = i := by omega
                  have HY3 : Hid (TI p N E (gv xs) zs (k + 1)) := Lib.hid (TI.take HP.out HE.out HY.out hlt HEK.out hzl fun j hj => by
                    rw [HO.out, HYK.out, HZ.out j hj, if_pos hj])
                  go_wp2
                  go_roundw
                  case rel => exact ⟨k + 1, zs, by omega, by go_num, hG, HY3, B, T⟩
                  case measure => simp [intOf]; omega
        · obtain rfl : N = k := by omega
          go_wp2
          go_ret2
          exact ⟨_, ys, N, rfl, hG, ⟨Nat.le_refl _, HY.out, fun h => by omega⟩, T⟩
end Go.Proofs.YtejghidllochoaaDoor
/- impl.spanOfRelations and the rank: contracts. -/
namespace Go.Proofs.YtejghidllochoaaDoor
open Go.ChangeShapes Go.WideShapes Go.ChangeAt Go.RowKit
open Ech (Sp Rw Stair)

/-- A span's rows where they may be set. -/
def SpW (w : World) (b N : Nat) (E : Nat → Option (List Int)) : Prop :=
  b < w.heap.size ∧ ∀ i, i < N → ∃ r, w.cell? ⟨b, i, none⟩ = some r ∧ w.frozen? ⟨b, i, none⟩ = false ∧ RowAt w w.heap.size N r (E i) ∧ ∀ g n c, r = .slice (some ⟨g, 0, none⟩) n c → b < g
theorem SpW.spB {w : World} {b N : Nat} {E : Nat → Option (List Int)} (h : SpW w b N E) : SpB w w.heap.size b N E :=
  ⟨Nat.le_refl _, h.1, fun i hi => by obtain ⟨r, h1, _, h3, _⟩ := h.2 i hi; exact ⟨r, h1, h3⟩⟩
theorem RowAt.more {w : World} {U U' N : Nat} {r : Value} {o : Option (List Int)} (h : RowAt w U N r o) (hU : U ≤ U') : RowAt w U' N r o := by
  cases o with
  | none => exact h
  | some xs =>
    obtain ⟨g, cap, e, hg, hl, hc⟩ := h
    exact ⟨g, cap, e, by omega, hl, hc⟩
theorem SpW.own {w w' : World} {b N : Nat} {E : Nat → Option (List Int)} (h : SpW w b N E) (hb : Below w.heap.size w w') : SpW w' b N E := by
  refine ⟨Nat.lt_of_lt_of_le h.1 hb.size, fun i hi => ?_⟩
  obtain ⟨r, h1, h2, h3, h4⟩ := h.2 i hi
  exact ⟨r, (hb.cell (p := ⟨b, i, none⟩) h.1).trans h1, (hb.frozen (p := ⟨b, i, none⟩) h.1).trans h2, (h3.below hb).more hb.size, h4⟩
theorem SpW.new {w : World} {b N : Nat} (hb : w.heap.size = b) : SpW (w.alloc (.cells (Array.replicate N rowZ) 31)) b N (fun _ => none) := by
  subst hb
  refine ⟨by simp, fun i hi => ⟨rowZ, ?_, ?_, rfl, fun g n c e => by simp [rowZ] at e⟩⟩
  · rw [World.cell?_alloc_at _ _ _ _ rfl]
    simp [hi]
  · exact World.frozen?_alloc_at _ _ _ _ rfl
theorem SpW.far {w : World} {b N : Nat} {E : Nat → Option (List Int)} (h : SpW w b N E) {p : Addr} (hp : p.block < b) (u : Value) : SpW (w.setCell p u) b N E := by
  have hs : (w.setCell p u).heap.size = w.heap.size := by simp [World.setCell]
  have hcell : ∀ g' k, p.block ≠ g' → (w.setCell p u).cell? ⟨g', k, none⟩ = w.cell? ⟨g', k, none⟩ := fun g' k hg' =>
    World.cell?_of_block (a := ⟨g', k, none⟩) (Below.heap_setCell w p u g' (Ne.symm hg'))
  refine ⟨by rw [hs]; exact h.1, fun i hi => ?_⟩
  obtain ⟨r, h1, h2, h3, h4⟩ := h.2 i hi
  refine ⟨r, (hcell b i (by omega)).trans h1, (World.frozen?_setCell _ _ _ _).trans h2, ?_, h4⟩
  rw [hs]
  generalize E i = o at h3 ⊢
  cases o with
  | none => exact h3
  | some xs =>
    obtain ⟨g, cap, e, hg, hl, hc⟩ := h3
    exact ⟨g, cap, e, hg, hl, fun k hk => (hcell g k (by have := h4 g N cap e; omega)).trans (hc k hk)⟩
def upd (E : Nat → Option (List Int)) (i : Nat) (ys : List Int) (j : Nat) : Option (List Int) := if j = i then some ys else E j
theorem SpW.set {w : World} {b N i g cap : Nat} {E : Nat → Option (List Int)} {ys : List Int} (h : SpW w b N E) (_ : i < N) (hg : g < w.heap.size) (hne : b < g) (hl : ys.length = N) (hc : ∀ k, k < N → w.cell? ⟨g, k, none⟩ = some (.int .i64 (gv ys k))) :
    SpW (w.setCell ⟨b, i, none⟩ (.slice (some ⟨g, 0, none⟩) N cap)) b N (upd E i ys) := by
  have hs : (w.setCell ⟨b, i, none⟩ (.slice (some ⟨g, 0, none⟩) N cap)).heap.size = w.heap.size := by simp [World.setCell]
  have hcell : ∀ g' k, g' ≠ b → (w.setCell ⟨b, i, none⟩ (.slice (some ⟨g, 0, none⟩) N cap)).cell? ⟨g', k, none⟩ = w.cell? ⟨g', k, none⟩ := fun g' k hg' =>
    World.cell?_of_block (a := ⟨g', k, none⟩) (Below.heap_setCell w ⟨b, i, none⟩ _ g' hg')
  refine ⟨by rw [hs]; exact h.1, fun j hj => ?_⟩
  obtain ⟨r, h1, h2, h3, h4⟩ := h.2 j hj
  have hf : (w.setCell ⟨b, i, none⟩ (.slice (some ⟨g, 0, none⟩) N cap)).frozen? ⟨b, j, none⟩ = false := (World.frozen?_setCell _ _ _ _).trans h2
  by_cases e : j = i
  · subst e
    refine ⟨.slice (some ⟨g, 0, none⟩) N cap, World.cell?_setCell_same _ _ _ h1, hf, ?_, fun g' n c e => by injection e with e; injection e with e; injection e with e; omega⟩
    unfold upd
    rw [if_pos rfl]
    exact ⟨g, cap, rfl, by rw [hs]; exact hg, hl, fun k hk => (hcell g k (by omega)).trans (hc k hk)⟩
  · refine ⟨r, ?_, hf, ?_, h4⟩
    · rw [World.cell?_setCell_other _ _ _ _ (by intro he; injection he with _ h2; exact e h2.symm)]
      exact h1
    · unfold upd
      rw [if_neg e, hs]
      generalize hE : E j = o at h3 ⊢
      cases o with
      | none => exact h3
      | some xs =>
        obtain ⟨g', cap', e', hg', hl', hc'⟩ := h3
        exact ⟨g', cap', e', hg', hl', fun k hk => (hcell g' k (by have := h4 g' N cap' e'; omega)).trans (hc' k hk)⟩
/-- relations so far -/
def RL (n : Int) (N m : Nat) (r : Nat → Int) : Prop := ∃ j, j < m ∧ r = gv (rel n N j)
/-- The rows and the first m relations have the same sums. -/
def SPAN (p : Int) (n : Int) (N m : Nat) (E : Nat → Option (List Int)) : Prop := Rows8 p N E ∧ (∀ r, RE N E r → Sp p N (RL n N m) r) ∧ ∀ j, j < m → Sp p N (RE N E) (gv (rel n N j))
theorem SPAN.start (p n : Int) (N : Nat) : SPAN p n N 0 (fun _ => none) := by
  refine ⟨fun i _ xs h => (by cases h), fun r hr => ?_, fun j hj => by omega⟩
  obtain ⟨i, _, xs, h, _⟩ := hr
  cases h
/-- a relation that leaves nothing -/
theorem SPAN.same {p : Nat} {n : Int} {N m : Nat} {E : Nat → Option (List Int)} {ys : List Int} (h : SPAN p n N m E) (ht : TI p N E (gv (rel n N m)) ys N) : SPAN p n N (m + 1) E := by
  obtain ⟨h1, h2, h3⟩ := h
  refine ⟨h1, fun r hr => (h2 r hr).mono fun q ⟨j, hj, e⟩ => ⟨j, by omega, e⟩, fun j hj => ?_⟩
  rcases (show j < m ∨ j = m by omega) with h | rfl
  · exact h3 j h
  · refine ht.2.2.2.trans fun r hr => ?_
    rcases hr with hr | rfl
    · exact Sp.mem hr
    · exact .zero _ fun k hk => by rw [ht.2.1 k hk hk]; exact ⟨0, by simp⟩
/-- a relation that leaves a row -/
theorem SPAN.more {p : Nat} {n : Int} {N m first : Nat} {E : Nat → Option (List Int)} {ys : List Int} (h : SPAN p n N m E) (hf : first < N) (ht : TI p N E (gv (rel n N m)) ys first) (h0 : gv ys first ≠ 0) (hE : E first = none) : SPAN p n N (m + 1) (upd E first ys) := by
  obtain ⟨h1, h2, h3⟩ := h
  have hold : ∀ r, RE N E r → RE N (upd E first ys) r := fun r ⟨i, hi, xs, e, e2⟩ => ⟨i, hi, xs, by
    unfold upd
    rw [if_neg (fun h => by rw [h, hE] at e; cases e)]
    exact e, e2⟩
  have hnew : RE N (upd E first ys) (gv ys) := ⟨first, hf, ys, by simp [upd], rfl⟩
  have hsub : ∀ r, RL n N m r → RL n N (m + 1) r := fun q ⟨j, hj, e⟩ => ⟨j, by omega, e⟩
  refine ⟨fun i hi xs e => ?_, fun r ⟨i, hi, xs, e, e2⟩ => ?_, fun j hj => ?_⟩
  · unfold upd at e
    by_cases e1 : i = first
    · subst e1
      rw [if_pos rfl] at e
      injection e with e
      subst e
      exact ⟨ht.1, fun k hk => ht.2.1 k hk (by omega), h0⟩
    · rw [if_neg e1] at e
      exact h1 i hi xs e
  · unfold upd at e
    by_cases e1 : i = first
    · subst e1
      rw [if_pos rfl] at e
      injection e with e
      subst e
      rw [e2]
      refine ht.2.2.1.trans fun q hq => ?_
      rcases hq with hq | rfl
      · exact (h2 q hq).mono hsub
      · exact Sp.mem ⟨m, by omega, rfl⟩
    · rw [if_neg e1] at e
      exact (h2 r ⟨i, hi, xs, e, e2⟩).mono hsub
  · rcases (show j < m ∨ j = m by omega) with h | rfl
    · exact (h3 j h).mono hold
    · refine ht.2.2.2.trans fun q hq => ?_
      rcases hq with hq | rfl
      · exact Sp.mem (hold q hq)
      · exact Sp.mem hnew
theorem rel_i64 {n : Int} {N j k : Nat} (hlv : lvC n = 0) (hN : (ln n).length = N) (hj : j < N + N) : I64 (gv (rel n N j) k) := by
  have hn' : 1 ≤ n ∧ n ≤ 60 := of_decide_eq_true (lvC_0 hlv).1
  subst hN
  have := rel_bd n (ln n).length j k (fun i hi => ⟨kS_lt hn'.1 hi, kU_lt hn'.1 hi, kV_lt hn'.1 hi⟩) hj
  unfold gv I64
  omega
set_option maxRecDepth 100000 in
set_option maxHeartbeats 4000000 in
theorem spanOf_is (n : Int) (hlv : lvC n = 0) (p N : Nat) (hp5 : Ech.fiveP p) (hN : (ln n).length = N) (w : World) (hid : Idn w) (hmx : MxS w) :
    Calls Tryd.prog 44 #[(.int .i64 n), (.int .i64 ((p : Int)))] w fun e w' => ∃ b E, e = .returned (.agg #[(.int .i64 ((p : Int))), .slice (some ⟨b, 0, none⟩) N N]) ∧ SpB w' w'.heap.size b N E ∧ SPAN p n N (N + N) E ∧ Below w.heap.size w w' := by
  have hp1 : (1 : Int) ≤ p := by rcases hp5 with rfl | rfl | rfl | rfl | rfl <;> omega
  have hN72 : N ≤ 72 := by rw [← hN]; exact (lvC_len hlv).2
  have hN0 : 0 < N := by
    have hn' : 1 ≤ n ∧ n ≤ 60 := of_decide_eq_true (lvC_0 hlv).1
    obtain ⟨K, hK, _⟩ := nrm_in hn'.1 (show isP n 0 1 = true by simp [isP])
    omega
  have HR := Lib.hid (fun w h1 h2 => implRel_yes n hlv N hN w h1 h2)
  have HI := Lib.hid (fun j k (hj : j < N + N) => rel_i64 (k := k) hlv hN hj)
  have HM := Lib.hid (And.intro hid hmx)
  have HP := Lib.hid (And.intro hp5 hp1)
  have hmk := madeRow N N (Nat.le_refl _) (by omega)
  have hq : ((N : Int) + (N : Int)) / 2 = (N : Int) := by omega
  clear hlv hN hid hmx hp5
  go_enter Tryd.func44, Tryd.ntmps44
  go_wp2_with fail
  refine (HR.out _ (Rd.below HM.out.1 (by repeat (first | with_reducible exact own_refl _ | with_reducible assumption | with_reducible apply own_alloc | with_reducible apply own_drewN | with_reducible apply own_drew | ((with_reducible refine own_setCell ?_ ?_ _); rotate_left; focus (first | (simp; done) | (simp; omega))) | (with_reducible (refine own_trans ?_ (by assumption)))))) (Rd.below HM.out.2 (by repeat (first | with_reducible exact own_refl _ | with_reducible assumption | with_reducible apply own_alloc | with_reducible apply own_drewN | with_reducible apply own_drew | ((with_reducible refine own_setCell ?_ ?_ _); rotate_left; focus (first | (simp; done) | (simp; omega))) | (with_reducible (refine own_trans ?_ (by assumption))))))).mono ?_
  rintro e w2 ⟨v, g, xs, rfl, F, RF, hb2⟩
  have BR : Box w2 w.heap.size [(.int .i64 0), .slice none 0 0] := Box.below (Box.new _ _ _) hb2
  have T2 : Below w.heap.size w w2 := by repeat (first | with_reducible exact own_refl _ | with_reducible assumption | with_reducible apply own_alloc | with_reducible apply own_drewN | with_reducible apply own_drew | ((with_reducible refine own_setCell ?_ ?_ _); rotate_left; focus (first | (simp; done) | (simp; omega))) | (with_reducible (refine own_trans ?_ (by assumption))))
  have hlt2 : w.heap.size < w2.heap.size := BR.1
  obtain ⟨h0, cap, rfl, hL0, hlt0, hne0, hrows⟩ := F.shape (by omega)
  have MX := F.mixU RF (fun j _ => rel_len n N j) (by omega) hN0
  have HMX := Lib.hid MX
  have HRW := Lib.hid hrows
  clear F RF hrows MX hb2
  go_wp2
  have S0 : SpW ((w2.alloc (.cells (Array.replicate N rowZ) 31)).alloc (.cells #[(.int .i64 ((p : Int))), .slice (some ⟨w2.heap.size, 0, none⟩) N N] 65)) w2.heap.size N (fun _ => none) := (SpW.new rfl).own (own_alloc (own_refl _) _)
  have B0 : Box ((w2.alloc (.cells (Array.replicate N rowZ) 31)).alloc (.cells #[(.int .i64 ((p : Int))), .slice (some ⟨w2.heap.size, 0, none⟩) N N] 65)) (w2.heap.size + 1) [(.int .i64 ((p : Int))), .slice (some ⟨w2.heap.size, 0, none⟩) N N] := Box.newAt (by simp) _ _
  have T0 : Below w2.heap.size w2 ((w2.alloc (.cells (Array.replicate N rowZ) 31)).alloc (.cells #[(.int .i64 ((p : Int))), .slice (some ⟨w2.heap.size, 0, none⟩) N N] 65)) := by repeat (first | with_reducible exact own_refl _ | with_reducible assumption | with_reducible apply own_alloc | with_reducible apply own_drewN | with_reducible apply own_drew | ((with_reducible refine own_setCell ?_ ?_ _); rotate_left; focus (first | (simp; done) | (simp; omega))) | (with_reducible (refine own_trans ?_ (by assumption))))
  have hz0 : w2.heap.size + 2 ≤ ((w2.alloc (.cells (Array.replicate N rowZ) 31)).alloc (.cells #[(.int .i64 ((p : Int))), .slice (some ⟨w2.heap.size, 0, none⟩) N N] 65)).heap.size := by simp
  generalize (w2.alloc (.cells (Array.replicate N rowZ) 31)).alloc (.cells #[(.int .i64 ((p : Int))), .slice (some ⟨w2.heap.size, 0, none⟩) N N] 65) = W at *
  generalize ((N : Int) + (N : Int)) / 2 = hh at *
  clear hq
  go_loopw [25] (fun x wr => ∃ (i : Nat) (E : Nat → Option (List Int)), i ≤ N + N ∧ x = (.int .i64 ((i : Int))) ∧ SpW wr w2.heap.size N E ∧ Hid (SPAN p n N i E) ∧ Box wr (w2.heap.size + 1) [(.int .i64 ((p : Int))), .slice (some ⟨w2.heap.size, 0, none⟩) N N] ∧ Below w2.heap.size w2 wr ∧ w2.heap.size + 2 ≤ wr.heap.size) (fun x _ => N + N - (intOf x).toNat)
  case atStart => exact ⟨0, _, Nat.zero_le _, rfl, S0, Lib.hid (SPAN.start _ _ _), B0, T0, hz0⟩
  case round =>
    clear S0 B0 T0 hz0
    obtain ⟨i, E, hi, rfl, S, HSP, B, T, hz⟩ := hrel
    obtain ⟨_, b0, b1, _, _⟩ := B.two
    by_cases hlt : i < N + N
    · have c0 := (T.cell (p := ⟨h0, i, none⟩) hlt0).trans (HRW.out i hlt)
      simp only [rowV] at c0
      have hSl := (HMX.out.below T).2.2 i hlt
      simp only [rowV] at hSl
      have HTK := Lib.hid (takeOff_is p N HP.out.1 hN0 hN72 E HSP.out.1 (rel n N i) (rel_len n N i) (fun k _ => HI.out i k hlt) _ _ _ _ _ wr hSl S.spB)
      have HS := Lib.hid S
      have HB := Lib.hid B
      generalize i * N = a at *
      clear hSl S
      go_wp2_with fail
      refine HTK.out.mono ?_
      rintro e w5 ⟨r, ys, first, rfl, G5, ⟨t1, t2, t3⟩, hb5⟩
      obtain ⟨ad, cp, hv⟩ := G5.shape
      rw [t2.1.1] at hv
      subst hv
      obtain ⟨g5, rfl, hg5, hg5', hc5⟩ := G5.cellsZ hN0
      have HS5 := Lib.hid (HS.out.own hb5)
      have B5 := HB.out.below hb5
      have T5 := own_trans T hb5
      have hz5 : w2.heap.size + 2 ≤ w5.heap.size := Nat.le_trans hz hb5.size
      obtain ⟨_, d0, d1, _, _⟩ := B5.two
      have H3 := Lib.hid t3
      have H2 := Lib.hid t2
      clear hb5 t2 t3
      by_cases hf : first < N
      · have HN := Lib.hid (HSP.out.more hf H2.out (H3.out hf).1 (H3.out hf).2)
        obtain ⟨ro, co, fo, _, _⟩ := HS5.out.2 first hf
        have HSS := Lib.hid (HS5.out.set (cap := cp) hf hg5' (by omega) H2.out.1.1 (fun k hk => (hc5 k hk).1))
        have HBB := Lib.hid (B5.far (p := ⟨w2.heap.size, first, none⟩) (by dsimp only; omega) (.slice (some ⟨g5, 0, none⟩) N cp))
        have HTT : Hid (Below w2.heap.size w2 (w5.setCell ⟨w2.heap.size, first, none⟩ (.slice (some ⟨g5, 0, none⟩) N cp))) := Lib.hid (own_setCell T5 (Nat.le_refl _) _)
        clear hc5
        go_wp2
        go_roundw
        case rel => exact ⟨i + 1, _, by omega, by go_num, HSS.out, HN, HBB.out, HTT.out, by simpa [World.setCell] using hz5⟩
        case measure => simp [intOf]; omega
      · obtain rfl : N = first := by omega
        have HN := Lib.hid (HSP.out.same H2.out)
        go_wp2
        go_roundw
        case rel => exact ⟨i + 1, E, by omega, by go_num, HS5.out, HN, B5, T5, hz5⟩
        case measure => simp [intOf]; omega
    · obtain rfl : N + N = i := by omega
      have BR := BR.below T
      obtain ⟨_, r0, r1, r2, r3⟩ := BR.two
      have hL2 := T2.size
      have BE := BR.put2 (.int .i64 ((p : Int))) (.slice (some ⟨w2.heap.size, 0, none⟩) N N)
      have SE := ((S.far (p := ⟨w.heap.size, 0, none⟩) (by dsimp only; omega) (.int .i64 ((p : Int)))).far (p := ⟨w.heap.size, 1, none⟩) (by dsimp only; omega) (.slice (some ⟨w2.heap.size, 0, none⟩) N N)).spB
      go_wp2
      obtain ⟨_, e0, e1, _, _⟩ := BE.two
      refine bodyPost_ret (v := .agg #[(.int .i64 ((p : Int))), .slice (some ⟨w2.heap.size, 0, none⟩) N N]) (by simp [results, Tryd.results44, go_sem, e0, e1]) rfl ⟨w2.heap.size, E, rfl, SE, HSP.out, own_setCell (own_setCell (own_trans T2 T) (Nat.le_refl _) _) (Nat.le_refl _) _⟩
end Go.Proofs.YtejghidllochoaaDoor
/- (span).rank, and the program's RankOf and DimensionOf: contracts. -/
namespace Go.Proofs.YtejghidllochoaaDoor
open Go.ChangeShapes Go.WideShapes Go.ChangeAt Go.RowKit
open Ech (Sp Rw Stair)

/-- how many rows there are -/
def cntE (E : Nat → Option (List Int)) : Nat → Nat
  | 0 => 0
  | k + 1 => cntE E k + if (E k).isSome = true then 1 else 0
theorem cntE_le (E : Nat → Option (List Int)) : ∀ k : Nat, cntE E k ≤ k
  | 0 => Nat.le_refl _
  | k + 1 => by
    have := cntE_le E k
    rw [cntE]
    split <;> omega
set_option maxHeartbeats 1000000 in
theorem rank_is (p : Int) (N : Nat) (hN0 : 0 < N) (hN : N ≤ 72) (E : Nat → Option (List Int)) (b U : Nat) (w : World) (hB : SpB w U b N E) :
    Calls Tryd.prog 45 #[.agg #[(.int .i64 p), .slice (some ⟨b, 0, none⟩) N N]] w fun e w' => e = .returned (.int .i64 ((cntE E N : Int))) ∧ Below w.heap.size w w' := by
  have HB := Lib.hid hB
  have h0 := nil_ne
  have h1 := some_ne
  have hbw : b < w.heap.size := by have := hB.1; have := hB.2.1; omega
  clear hB
  go_enter Tryd.func45, Tryd.ntmps45
  go_wp2
  have T0 : Below w.heap.size w (w.alloc (.cells #[(.int .i64 p), .slice (some ⟨b, 0, none⟩) N N] 65)) := by repeat (first | with_reducible exact own_refl _ | with_reducible assumption | with_reducible apply own_alloc | with_reducible apply own_drewN | with_reducible apply own_drew | ((with_reducible refine own_setCell ?_ ?_ _); rotate_left; focus (first | (simp; done) | (simp; omega))) | (with_reducible (refine own_trans ?_ (by assumption))))
  generalize w.alloc (.cells #[(.int .i64 p), .slice (some ⟨b, 0, none⟩) N N] 65) = W at *
  go_loopw [3, 9] (fun c x wr => ∃ (k s : Nat), k ≤ N ∧ x = (.int .i64 ((k : Int))) ∧ c = (.int .i64 ((s : Int))) ∧ Hid (cntE E k = s) ∧ s ≤ k ∧ wr = W) (fun _ x _ => N - (intOf x).toNat)
  case atStart => exact ⟨0, 0, Nat.zero_le _, rfl, rfl, Lib.hid rfl, Nat.le_refl _, rfl⟩
  case round =>
    obtain ⟨k, s, hk, rfl, rfl, HS, hs, rfl⟩ := hrel
    by_cases hlt : k < N
    · obtain ⟨r, cr, hr⟩ := HB.out.2.2 k hlt
      have cr := (T0.cell (p := ⟨b, k, none⟩) hbw).trans cr
      have hC : cntE E (k + 1) = cntE E k + if (E k).isSome = true then 1 else 0 := rfl
      generalize hE : E k = o at hr hC
      cases o with
      | none =>
        have hr : r = .slice none 0 0 := hr
        subst hr
        have HC : Hid (cntE E (k + 1) = s) := Lib.hid (by rw [hC, HS.out]; rfl)
        clear hC hE
        go_wp2
        go_roundw
        case rel => exact ⟨k + 1, s, by omega, by go_num, rfl, HC, by omega, by first | trivial | rfl⟩
        case measure => simp [intOf]; omega
      | some xs =>
        obtain ⟨g, cap, rfl, _⟩ := hr
        have HC : Hid (cntE E (k + 1) = s + 1) := Lib.hid (by rw [hC, HS.out]; rfl)
        clear hC hE
        go_wp2
        go_roundw
        case rel => exact ⟨k + 1, s + 1, by omega, by go_num, by go_num, HC, by omega, by first | trivial | rfl⟩
        case measure => simp [intOf]; omega
    · obtain rfl : N = k := by omega
      go_wp2
      go_ret
      exact ⟨ret_int (by rw [HS.out]), T0⟩
theorem mpC_0 (n p : Int) (xss : Nat → List Int) : mpC n p 0 xss = if isFive p = true then lvC n else 2 := by
  unfold mpC
  rw [mxC_0]
/-- the code of a level and a prime -/
def lpC (n p : Int) : Int := if isFive p = true then lvC n else 2
theorem lpC_0 {n p : Int} (h : lpC n p = 0) : lvC n = 0 ∧ ∃ P : Nat, p = P ∧ Ech.fiveP P := by
  unfold lpC at h
  split at h
  · rename_i h5
    refine ⟨h, p.toNat, ?_⟩
    rcases isFive_yes h5 with rfl | rfl | rfl | rfl | rfl <;> exact ⟨rfl, by unfold Ech.fiveP; omega⟩
  · omega
theorem implRank_no (n p c : Int) (hc : lpC n p = c) (h0 : c ≠ 0) (w : World) : Calls Tryd.prog 16 #[(.int .i64 n), (.int .i64 p)] w fun e w' => e = .returned (.tuple #[(.int .i64 0), (.int .i64 c)]) ∧ Below w.heap.size w w' := by
  have HC := Lib.hid hc
  have hne : (c != 0) = true := by simpa using h0
  clear hc h0
  go_enter Tryd.func16, Tryd.ntmps16
  go_wp2_with fail
  refine (codeModulo_is n p 0 (by omega) _ _ (fun _ => []) (fun k h => by omega) c (by rw [mpC_0]; exact HC.out) _ (Mixes.nil _ _)).mono ?_
  rintro e w2 ⟨rfl, hb2⟩
  go_wp2
  go_ret2
  exact ⟨rfl, hb2⟩
theorem implRank_yes (n : Int) (p N : Nat) (hlv : lvC n = 0) (hp5 : Ech.fiveP p) (hN : (ln n).length = N) (w : World) (hid : Idn w) (hmx : MxS w) :
    Calls Tryd.prog 16 #[(.int .i64 n), (.int .i64 ((p : Int)))] w fun e w' => ∃ E, e = .returned (.tuple #[(.int .i64 ((cntE E N : Int))), (.int .i64 0)]) ∧ SPAN p n N (N + N) E ∧ Below w.heap.size w w' := by
  have hl : lpC n p = 0 := by
    unfold lpC
    rw [if_pos (by rcases hp5 with rfl | rfl | rfl | rfl | rfl <;> rfl)]
    exact hlv
  have HC := Lib.hid hl
  have HS := Lib.hid (fun w h1 h2 => spanOf_is n hlv p N hp5 hN w h1 h2)
  have HM := Lib.hid (And.intro hid hmx)
  have hN0 : 0 < N ∧ N ≤ 72 := by
    have hn' : 1 ≤ n ∧ n ≤ 60 := of_decide_eq_true (lvC_0 hlv).1
    obtain ⟨K, hK, _⟩ := nrm_in hn'.1 (show isP n 0 1 = true by simp [isP])
    have := (lvC_len hlv).2
    omega
  clear hl hlv hp5 hN hid hmx
  go_enter Tryd.func16, Tryd.ntmps16
  go_wp2_with fail
  refine (codeModulo_is n p 0 (by omega) _ _ (fun _ => []) (fun k h => by omega) 0 (by rw [mpC_0]; exact HC.out) _ (Mixes.nil _ _)).mono ?_
  rintro e w2 ⟨rfl, hb2⟩
  go_wp2_with fail
  refine (HS.out _ (Rd.below HM.out.1 hb2) (Rd.below HM.out.2 hb2)).mono ?_
  rintro e w3 ⟨b, E, rfl, hB3, hSP, hb3⟩
  have HSP := Lib.hid hSP
  clear hSP
  go_wp2_with fail
  refine (rank_is p N hN0.1 hN0.2 E b _ _ hB3).mono ?_
  rintro e w4 ⟨rfl, hb4⟩
  go_wp2
  go_ret2
  exact ⟨E, rfl, HSP.out, own_trans hb2 (own_trans hb3 hb4)⟩
end Go.Proofs.YtejghidllochoaaDoor
