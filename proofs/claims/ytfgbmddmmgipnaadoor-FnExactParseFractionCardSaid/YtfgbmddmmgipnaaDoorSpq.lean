/- impl.splitNumbers: contract. -/
import Derived.Test.YtfgbmddmmgipnaaDoorPnb
namespace Go.Proofs.YtfgbmddmmgipnaaDoor
open Go.ChangeShapes Go.WideShapes Go.ChangeAt Go.RowKit

theorem makeI (n : Nat) (hn : n ≤ 1000000) : ∃ cur : Array Value, cur.size = n ∧ ∀ w : World, (Instr.makeSlice 39 (.int .i64 0) (.int .i64 n)).run Tryd.prog w =
    .ok (.slice (some ⟨w.heap.size, 0, none⟩) 0 n) (w.alloc (.cells cur 2)) := by
  obtain ⟨i0, hi, hz0, hz1, hz2⟩ := info_parts info_i64
  refine ⟨madeCells ((.int .i64 0) : Value).cells (n * 1), by rw [size_madeCells]; omega, fun w => ?_⟩
  have h := run_make (P := Tryd.prog) (w := w) 39 2 i0 (.int .i64 0) Tryd.underlying39 hi hz0 .i64 .i64 0 n (Int.le_refl _) (by omega) (by rw [hz2]; omega) (by omega)
  rw [h, hz1]
  simp
theorem Gr.made {w : World} {L g n : Nat} {cur : Array Value} (hg : w.heap.size = g) (hL : L ≤ g) (hc : cur.size = n) (hn : n ≤ 1000000) :
    Gr (w.alloc (.cells cur 2)) L (.slice (some ⟨g, 0, none⟩) 0 n) [] := by
  subst hg
  exact World.ownsRow_made w cur n hL (by unfold maxLen; omega) (by omega)
def Wide (xs : List Int) : Prop := ∀ x ∈ xs, I64 x
/-- What splitNumbers gives back. -/
def RetQ (ps : List (List UInt8)) (n : Nat) (w : World) (e : Ending) (w' : World) : Prop :=
  ((∃ v, e = .returned (.tuple #[v, .bool true]) ∧ ∃ xs, xs.length = n ∧ Sl w' w.heap.size w'.heap.size v xs ∧ Hid (ps = xs.map Lib.itoa ∧ Wide xs)) ∨
    (e = .returned (.tuple #[.slice none 0 0, .bool false]) ∧ Hid (∀ xs, Wide xs → xs.length = n → ps ≠ xs.map Lib.itoa))) ∧ Below w.heap.size w w'
theorem cellsOf_at (w : World) (ps : List ByteArray) (N j : Nat) (x : ByteArray) (h : ps[j]? = some x) : (w.alloc (.cells (Lib.cellsOf ps N) 9)).cell? ⟨w.heap.size, j, none⟩ = some (.string x) := by
  have hj := (List.getElem?_eq_some_iff.1 h).1
  have : (Lib.cellsOf ps N)[j]? = some (.string x) := by
    unfold Lib.cellsOf
    rw [List.getElem?_toArray, List.getElem?_append_left (by simpa using hj), List.getElem?_map, h]
    rfl
  simp [this]
theorem parts_snocW {ps : List ByteArray} {xs : List Int} {k : Nat} {x : ByteArray} {y : Int} (h : ps[k]? = some x) (he : (ps.take k).map toL = xs.map Lib.itoa ∧ Wide xs) (h1 : toL x = Lib.itoa y) (h2 : I64 y) : (ps.take (k + 1)).map toL = (xs ++ [y]).map Lib.itoa ∧ Wide (xs ++ [y]) := by
  refine ⟨?_, fun z hz => ?_⟩
  · rw [List.take_add_one, h, List.map_append, he.1, List.map_append]
    simp only [Option.toList_some, List.map_cons, List.map_nil]
    rw [h1]
  · rcases List.mem_append.1 hz with hz | hz
    · exact he.2 z hz
    · simp only [List.mem_singleton] at hz; subst hz; exact h2
set_option maxRecDepth 100000 in
set_option maxHeartbeats 4000000 in
theorem splitNumbers_any (s : ByteArray) (hm : s.size ≤ 1048576) (c : UInt8) (n : Nat) (h1 : 1 ≤ n) (h2 : n ≤ 100) (w : World) (hL : Lb w) :
    Calls Tryd.prog 16 #[.string s, .string ⟨#[c]⟩, (.int .i64 n)] w (RetQ (splitL c (toL s)) n w) := by
  have HSP := Lib.hid (splitN_any s ⟨#[c]⟩ (n + 1) w hL hm (by simp [ByteArray.size]) (by omega) (by omega))
  have HPT := Lib.hid (splitN_parts c n s)
  have HLB := Lib.hid hL
  have hww : IntKind.i64.wrap ((n : Int) + 1) = ((n + 1 : Nat) : Int) := by rw [show (n : Int) + 1 = ((n + 1 : Nat) : Int) by omega]; exact IntWalk.i64_in _ (by omega)
  obtain ⟨N, hN⟩ : ∃ N, min (n + 1) (s.size + 1) = N := ⟨_, rfl⟩
  rw [hN] at HSP HPT
  obtain ⟨ps, hps⟩ : ∃ ps, Lib.splitB ⟨#[c]⟩ 0 (N - 1) s = ps := ⟨_, rfl⟩
  rw [hps] at HSP HPT
  have HSZ := Lib.hid (fun p hp => split_le c (toL s) [] p hp)
  have HLL := Lib.hid (show (toL s).length = s.size from str_len s)
  obtain ⟨cur, hcur, hmk⟩ := makeI n (by omega)
  have HCUR := Lib.hid hcur
  obtain ⟨k0, hk0⟩ : ∃ k, ps.length = k := ⟨_, rfl⟩
  have HK := Lib.hid hk0
  rw [hk0] at HSP
  clear hps hN hL hcur hk0
  go_enter Tryd.func16, Tryd.ntmps16
  go_wp2_with fail
  refine HSP.out.mono ?_
  rintro e w1 ⟨rfl, rfl⟩
  have hcl := Lib.hid (cellsOf_at w ps N)
  have T1 : Below w.heap.size w (w.alloc (.cells (Lib.cellsOf ps N) 9)) := by repeat (first | with_reducible exact own_refl _ | with_reducible assumption | with_reducible apply own_alloc | with_reducible apply own_drewN | with_reducible apply own_drew | ((with_reducible refine own_setCell ?_ ?_ _); rotate_left; focus (first | (simp; done) | (simp; omega))) | (with_reducible (refine own_trans ?_ (by assumption))))
  have LB1 := HLB.out.below T1
  have hg1 : w.heap.size < (w.alloc (.cells (Lib.cellsOf ps N) 9)).heap.size := by simp
  generalize w.alloc (.cells (Lib.cellsOf ps N) 9) = w1 at *
  by_cases hkn : k0 = n
  · subst hkn
    have HP := Lib.hid (show ps.map toL = splitL c (toL s) by
      rcases HPT.out with h | h
      · exact h.2
      · exact absurd HK.out h.1)
    go_wp2
    go_loopw [9, 27] (fun v i wr => ∃ (k : Nat) (xs : List Int), k ≤ k0 ∧ xs.length = k ∧ i = (.int .i64 k) ∧ Hid ((ps.take k).map toL = xs.map Lib.itoa ∧ Wide xs) ∧ Gr wr w1.heap.size v xs ∧ Below w1.heap.size w1 wr) (fun _ i _ => k0 - (intOf i).toNat)
    case atStart => exact ⟨0, [], Nat.zero_le _, rfl, rfl, Lib.hid ⟨by simp, by simp [Wide]⟩, Gr.made rfl (Nat.le_refl _) HCUR.out (by omega), by repeat (first | with_reducible exact own_refl _ | with_reducible assumption | with_reducible apply own_alloc | with_reducible apply own_drewN | with_reducible apply own_drew | ((with_reducible refine own_setCell ?_ ?_ _); rotate_left; focus (first | (simp; done) | (simp; omega))) | (with_reducible (refine own_trans ?_ (by assumption))))⟩
    case round =>
      obtain ⟨k, xs, hk, hxl, rfl, HX, hGr, T⟩ := hrel
      obtain ⟨ad, cp, rfl⟩ := hGr.shape
      have HXL := Lib.hid hxl
      clear hxl
      by_cases hlt : k < k0
      · obtain ⟨x, hx⟩ : ∃ x, ps[k]? = some x := ⟨ps[k]'(by rw [HK.out]; exact hlt), List.getElem?_eq_getElem _⟩
        have c0 : wr.cell? ⟨w.heap.size, k, none⟩ = some (.string x) := by
          rw [T.cell (p := ⟨w.heap.size, k, none⟩) hg1]
          exact hcl.out k x hx
        have hlt' : (k : Int) < (k0 : Int) := by omega
        have hxs : x.size ≤ 1048576 := by
          have e1 : toL x ∈ splitL c (toL s) := by rw [← HP.out]; exact List.mem_map.2 ⟨x, List.mem_of_getElem? hx, rfl⟩
          have e2 := HSZ.out _ e1
          have e3 : (toL x).length = x.size := str_len x
          rw [HLL.out] at e2
          simp at e2
          omega
        have HXX := Lib.hid hx
        have LBR := LB1.below T
        have hz := T.size
        clear hx
        have HPN := Lib.hid (parseNumber_any x hxs wr LBR)
        go_wp2_with fail
        refine HPN.out.mono ?_
        rintro e w2 ⟨v, b, rfl, HV, hb2⟩
        cases b
        · have T3 := own_trans T hb2
          go_wp2
          go_ret2
          refine ⟨.inr ⟨rfl, Lib.hid (fun xs' ht _ he => ?_)⟩, by repeat (first | with_reducible exact own_refl _ | with_reducible assumption | with_reducible apply own_alloc | with_reducible apply own_drewN | with_reducible apply own_drew | ((with_reducible refine own_setCell ?_ ?_ _); rotate_left; focus (first | (simp; done) | (simp; omega))) | (with_reducible (refine own_trans ?_ (by assumption))))⟩
          rw [← HP.out] at he
          obtain ⟨m, h1, h2⟩ := parts_at HXX.out he
          exact HV.out.2 rfl m (ht m h1) h2
        · have T3 := own_trans T hb2
          have hGr3 := hGr.own hb2
          have hz3 := T3.size
          go_wp2_with (at_builtin; refine app64 rfl _ _ rfl w1.heap.size _ (.slice ad xs.length cp) xs v rfl hGr3 _ rfl rfl (by have := HXL.out; omega) hz3 ?_; intro v' w4 hG4 hb4)
          have T4 := T3.trans hb4
          go_roundw
          case rel => exact ⟨k + 1, xs ++ [v], by omega, by have := HXL.out; simp; omega, by go_num, Lib.hid (parts_snocW HXX.out HX.out (HV.out.1 rfl).1 (HV.out.1 rfl).2), hG4, T4⟩
          case measure => simp [intOf]; omega
      · have hlt' : ¬ (k : Int) < (k0 : Int) := by omega
        go_wp2
        go_ret2
        have hke : k = ps.length := by rw [HK.out]; omega
        have hz1 := T1.size
        refine ⟨.inl ⟨_, rfl, xs, by have := HXL.out; omega, (hGr.sl).weak (by omega), Lib.hid ?_⟩, by repeat (first | with_reducible exact own_refl _ | with_reducible assumption | with_reducible apply own_alloc | with_reducible apply own_drewN | with_reducible apply own_drew | ((with_reducible refine own_setCell ?_ ?_ _); rotate_left; focus (first | (simp; done) | (simp; omega))) | (with_reducible (refine own_trans ?_ (by assumption))))⟩
        have := HX.out
        rw [hke, List.take_length, HP.out] at this
        exact this
  · have hne : ((k0 : Int) != (n : Int)) = true := by simp; omega
    have HNL := Lib.hid (show (splitL c (toL s)).length ≠ n by
      rcases HPT.out with h | h
      · exact absurd (HK.out.symm.trans h.1) hkn
      · exact h.2)
    go_wp2
    go_ret2
    exact ⟨.inr ⟨rfl, Lib.hid (fun xs' _ hl he => HNL.out (by rw [he, List.length_map, hl]))⟩, by repeat (first | with_reducible exact own_refl _ | with_reducible assumption | with_reducible apply own_alloc | with_reducible apply own_drewN | with_reducible apply own_drew | ((with_reducible refine own_setCell ?_ ?_ _); rotate_left; focus (first | (simp; done) | (simp; omega))) | (with_reducible (refine own_trans ?_ (by assumption))))⟩
end Go.Proofs.YtfgbmddmmgipnaaDoor
