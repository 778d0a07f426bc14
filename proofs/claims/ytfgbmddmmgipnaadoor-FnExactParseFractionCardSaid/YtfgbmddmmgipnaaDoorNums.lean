/- spec.l01Numbers: contract. -/
import Derived.Test.YtfgbmddmmgipnaaDoorSplt
import Derived.Test.YtfgbmddmmgipnaaDoorRet
namespace Go.Proofs.YtfgbmddmmgipnaaDoor
open Go.ChangeShapes Go.WideShapes Go.ChangeAt Go.RowKit

theorem split_le (c : UInt8) : ∀ (r cur : List UInt8), ∀ p ∈ splitA c cur r, p.length ≤ cur.length + r.length
  | [], cur, p, hp => by simp only [splitA, List.mem_singleton] at hp; subst hp; omega
  | x :: r, cur, p, hp => by
    rw [splitA] at hp
    split at hp
    · rcases List.mem_cons.1 hp with rfl | hp
      · omega
      · have := split_le c r [] p hp; simp at this ⊢; omega
    · have := split_le c r (cur ++ [x]) p hp; simp at this ⊢; omega
theorem split_pos (c : UInt8) : ∀ (r cur : List UInt8), 0 < (splitA c cur r).length
  | [], cur => by simp [splitA]
  | x :: r, cur => by
    rw [splitA]
    split
    · simp
    · exact split_pos c r _
/-- Small numbers, with a sign, in decimal. -/
def Ten (xs : List Int) : Prop := ∀ x ∈ xs, x.natAbs < 10000000000
/-- What the reading of numbers gives back. -/
def RetN (ps : List (List UInt8)) (w : World) (e : Ending) (w' : World) : Prop :=
  ((∃ v, e = .returned (.tuple #[v, .bool true]) ∧ ∃ xs, Sl w' w.heap.size w'.heap.size v xs ∧ Hid (ps = xs.map Lib.itoa ∧ Ten xs)) ∨
    (e = .returned (.tuple #[.slice none 0 0, .bool false]) ∧ Hid (∀ xs, Ten xs → ps ≠ xs.map Lib.itoa))) ∧ Below w.heap.size w w'
theorem parts_at {ps : List ByteArray} {xs : List Int} {k : Nat} {x : ByteArray} (h : ps[k]? = some x) (he : ps.map toL = xs.map Lib.itoa) : ∃ m ∈ xs, toL x = Lib.itoa m := by
  have := congrArg (fun l => l[k]?) he
  simp only [List.getElem?_map, h, Option.map_some] at this
  rcases hm : xs[k]? with _ | m
  · rw [hm] at this; simp at this
  · rw [hm] at this
    exact ⟨m, List.mem_of_getElem? hm, by simpa using this⟩
theorem sgn_yes {l : List UInt8} {n : Int} (h : Sgn l n true) : l = Lib.itoa n ∧ n.natAbs < 10000000000 := by
  rcases h with h | h
  · exact h.2
  · cases h.1
theorem sgn_no {l : List UInt8} {n : Int} (h : Sgn l n false) : ∀ m : Int, m.natAbs < 10000000000 → l ≠ Lib.itoa m := by
  rcases h with h | h
  · cases h.1
  · exact h.2
theorem parts_snoc {ps : List ByteArray} {xs : List Int} {k : Nat} {x : ByteArray} {y : Int} (h : ps[k]? = some x) (he : (ps.take k).map toL = xs.map Lib.itoa ∧ Ten xs) (hy : Sgn x.data.toList y true) : (ps.take (k + 1)).map toL = (xs ++ [y]).map Lib.itoa ∧ Ten (xs ++ [y]) := by
  obtain ⟨h1, h2⟩ := sgn_yes hy
  refine ⟨?_, fun z hz => ?_⟩
  · rw [List.take_add_one, h, List.map_append, he.1, List.map_append]
    simp only [Option.toList_some, List.map_cons, List.map_nil]
    rw [show toL x = Lib.itoa y from h1]
  · rcases List.mem_append.1 hz with hz | hz
    · exact he.2 z hz
    · simp only [List.mem_singleton] at hz; subst hz; exact h2
set_option maxRecDepth 100000 in
set_option maxHeartbeats 4000000 in
theorem nums_any (s : ByteArray) (hm : s.size ≤ 1048576) (c : UInt8) (q : Int) (hq : q = (c.toNat : Int)) (w : World) :
    Calls Tryd.prog 26 #[.string s, .int .u8 q] w (RetN (splitL c (toL s)) w) := by
  have HSP := Lib.hid (split_any s hm c q hq)
  have HLE := Lib.hid (fun p hp => split_le c (toL s) [] p hp)
  have HPO := Lib.hid (split_pos c (toL s) [])
  have HLL := Lib.hid (show (toL s).length = s.size from str_len s)
  clear hq
  go_enter Tryd.func26, Tryd.ntmps26
  go_wp2_with fail
  refine (HSP.out _).mono ?_
  rintro e w1 ⟨v, rfl, ps, hG, hps, hb1⟩
  have T1 : Below w.heap.size w w1 := by repeat (first | with_reducible exact own_refl _ | with_reducible assumption | with_reducible apply own_alloc | with_reducible apply own_drewN | with_reducible apply own_drew | ((with_reducible refine own_setCell ?_ ?_ _); rotate_left; focus (first | (simp; done) | (simp; omega))) | (with_reducible (refine own_trans ?_ (by assumption))))
  have hpl : 0 < ps.length := by
    have := HPO.out
    rw [show splitA c [] (toL s) = splitL c (toL s) from rfl, ← hps, List.length_map] at this
    exact this
  obtain ⟨g, cap, rfl, hg, hcp, hcc⟩ := hG.reads hpl
  have HPS := Lib.hid hps
  have HSZ := Lib.hid (fun (j : Nat) (x : ByteArray) (hj : ps[j]? = some x) => show x.size ≤ 1000000000 by
    have h1 : toL x ∈ splitL c (toL s) := by rw [← hps]; exact List.mem_map.2 ⟨x, List.mem_of_getElem? hj, rfl⟩
    have h2 := HLE.out _ h1
    have h3 : (toL x).length = x.size := str_len x
    rw [HLL.out] at h2
    simp at h2
    omega)
  have HN := (show ps.length ≤ 4000000 by
    have h := congrArg List.length hps
    rw [List.length_map] at h
    have : ∀ (r cur : List UInt8), (splitA c cur r).length ≤ r.length + 1 := by
      intro r
      induction r with
      | nil => intro cur; simp [splitA]
      | cons x r ih =>
        intro cur
        rw [splitA]
        split
        · have := ih []; simp; omega
        · have := ih (cur ++ [x]); simp; omega
    have := this (toL s) []
    rw [HLL.out] at this
    rw [h]
    unfold splitL
    omega)
  have HCC := Lib.hid hcc
  clear hG hps hcc hb1
  obtain ⟨n, hn⟩ : ∃ n, ps.length = n := ⟨_, rfl⟩
  have HPN := Lib.hid hn
  rw [hn] at hpl hcp HN ⊢
  clear hn
  have hz1 := T1.size
  go_wp2
  go_loopw [7, 8] (fun v i wr => ∃ (k : Nat) (xs : List Int), k ≤ n ∧ xs.length = k ∧ i = (.int .i64 k) ∧ Hid ((ps.take k).map toL = xs.map Lib.itoa ∧ Ten xs) ∧ Gr wr w1.heap.size v xs ∧ Below w1.heap.size w1 wr) (fun _ i _ => n - (intOf i).toNat)
  case atStart => exact ⟨0, [], Nat.zero_le _, rfl, rfl, Lib.hid ⟨by simp, by simp [Ten]⟩, World.ownsRow_made w1 #[] 0 (Nat.le_refl _) (by unfold maxLen; omega) (by simp), by repeat (first | with_reducible exact own_refl _ | with_reducible assumption | with_reducible apply own_alloc | with_reducible apply own_drewN | with_reducible apply own_drew | ((with_reducible refine own_setCell ?_ ?_ _); rotate_left; focus (first | (simp; done) | (simp; omega))) | (with_reducible (refine own_trans ?_ (by assumption))))⟩
  case round =>
    obtain ⟨k, xs, hk, hxl, rfl, HX, hGr, T⟩ := hrel
    obtain ⟨ad, cp, rfl⟩ := hGr.shape
    have HXL := Lib.hid hxl
    clear hxl
    by_cases hlt : k < n
    · obtain ⟨x, hx⟩ : ∃ x, ps[k]? = some x := ⟨ps[k]'(by rw [HPN.out]; exact hlt), List.getElem?_eq_getElem _⟩
      have c0 : wr.cell? ⟨g, k, none⟩ = some (.string x) := by
        have := HCC.out k x hx
        rw [Nat.zero_add] at this
        rw [T.cell (p := ⟨g, k, none⟩) hg, this]
      have hlt' : (k : Int) < (n : Int) := by omega
      have HXX := Lib.hid hx
      have HSG := Lib.hid (signed_any x (HSZ.out k x hx))
      clear hx
      go_wp2_with fail
      refine (HSG.out _).mono ?_
      rintro e w2 ⟨y, ok, rfl, rfl, HSN⟩
      have hz := T.size
      cases ok
      · go_wp2
        go_ret2
        refine ⟨.inr ⟨rfl, Lib.hid (fun xs' ht he => ?_)⟩, by repeat (first | with_reducible exact own_refl _ | with_reducible assumption | with_reducible apply own_alloc | with_reducible apply own_drewN | with_reducible apply own_drew | ((with_reducible refine own_setCell ?_ ?_ _); rotate_left; focus (first | (simp; done) | (simp; omega))) | (with_reducible (refine own_trans ?_ (by assumption))))⟩
        rw [← HPS.out] at he
        obtain ⟨m, h1, h2⟩ := parts_at HXX.out he
        exact sgn_no HSN.out.1 m (ht m h1) h2
      · go_wp2_with (at_builtin; refine app64 rfl _ _ rfl w1.heap.size _ (.slice ad xs.length cp) xs y rfl hGr _ rfl rfl (by have := HXL.out; omega) hz ?_; intro v' w3 hG3 hb3)
        have T := T.trans hb3
        go_roundw
        case rel => exact ⟨k + 1, xs ++ [y], by omega, by have := HXL.out; simp; omega, by go_num, Lib.hid (parts_snoc HXX.out HX.out HSN.out.1), hG3, T⟩
        case measure => simp [intOf]; omega
    · have hlt' : ¬ (k : Int) < (n : Int) := by omega
      go_wp2
      go_ret2
      have hke : k = ps.length := by rw [HPN.out]; omega
      refine ⟨.inl ⟨_, rfl, xs, (hGr.sl).weak (by omega), Lib.hid ?_⟩, by repeat (first | with_reducible exact own_refl _ | with_reducible assumption | with_reducible apply own_alloc | with_reducible apply own_drewN | with_reducible apply own_drew | ((with_reducible refine own_setCell ?_ ?_ _); rotate_left; focus (first | (simp; done) | (simp; omega))) | (with_reducible (refine own_trans ?_ (by assumption))))⟩
      have := HX.out
      rw [hke, List.take_length, HPS.out] at this
      exact this
end Go.Proofs.YtfgbmddmmgipnaaDoor
