/- Free words: the model's letters put behind a word. -/
import Derived.Test.YtfgbmddmmgipnaaDoorFwP
import Derived.Test.YtfgbmddmmgipnaaDoorCvB
import Derived.Test.YtfgbmddmmgipnaaDoorChS
namespace Go.Proofs.YtfgbmddmmgipnaaDoor
open Go.ChangeShapes Go.WideShapes Go.ChangeAt Go.RowKit

theorem slice_toB (h M N cap : Nat) (h1 : N ≤ M) (h2 : M ≤ cap) (w : World) : Sem.run Tryd.prog (Instr.slice 63 (.slice (some ⟨h, 0, none⟩) M cap) none (some (.int .i64 (N : Int))) none) w = .ok (.slice (some ⟨h, 0, none⟩) N cap) w := by
  have h3 : N ≤ cap := by omega
  simp [Instr.slice, Instr.sliceBounds, Instr.sliceBound, asIntOf, go_sem, h3]
theorem GrB.last {w : World} {L k : Nat} {v : Value} {xs : List Int} (h : GrB w L v xs) (hn : xs.length = k + 1) :
    ∃ g cap, v = .slice (some ⟨g, 0, none⟩) (k + 1) cap ∧ L ≤ g ∧ g < w.heap.size ∧ k + 1 ≤ cap ∧ w.cell? ⟨g, k, none⟩ = some (.int .u8 (xs.getD k 0)) ∧ w.frozen? ⟨g, k, none⟩ = false ∧ GrB w L (.slice (some ⟨g, 0, none⟩) k cap) (xs.take k) := by
  obtain ⟨hl, ⟨rfl, h0⟩ | ⟨g, cap, cur, rfl, h1, h2, h3, h4, h5, h6⟩⟩ := h
  · omega
  · rw [hn] at h3 h6 ⊢
    have hc : (cur.toList.take (k + 1))[k]? = some (Value.int .u8 (xs.getD k 0)) := by
      rw [Nat.mul_one] at h6
      rw [h6, List.getElem?_map, List.getElem?_eq_getElem (by omega), List.getD, List.getElem?_eq_getElem (by omega)]
      rfl
    rw [List.getElem?_take_of_lt (by omega)] at hc
    refine ⟨g, cap, rfl, h1, (Array.getElem?_eq_some_iff.1 h2).1, h3, ?_, ?_, ?_, .inr ⟨g, cap, cur, ?_, h1, h2, ?_, h4, h5, ?_⟩⟩
    · simp only [World.cell?, h2]
      simpa using hc
    · simp [World.frozen?, h2]
    · simp
    · rw [List.length_take, Nat.min_eq_left (by omega)]
    · rw [List.length_take, Nat.min_eq_left (by omega)]; omega
    · rw [List.length_take, Nat.min_eq_left (by omega), List.map_take, ← h6, List.take_take]
      congr 1
      omega
theorem put_nil (x : Int) (L : Nat) (v : Value) (w : World) (hG : GrB w L v []) (hL : L ≤ w.heap.size) :
    Calls Tryd.prog 34 #[v, .int .u8 x] w fun e w' => ∃ v', e = .returned v' ∧ GrB w' L v' [x] ∧ Below L w w' := by
  obtain ⟨ad, cap, rfl⟩ := hG.shape
  go_enter Tryd.func34, Tryd.ntmps34
  go_wp2_with (at_builtin; refine app8 rfl _ _ rfl L w (.slice ad ([] : List Int).length cap) [] x rfl hG w.heap.size rfl rfl (by simp) hL ?_; intro v' w1 hG1 hb1 _)
  go_ret
  exact ⟨_, rfl, hG1, hb1⟩
theorem put_cut (y x : Int) (hyx : (y = 83 ∧ x = 83) ∨ (y = 85 ∧ x = 86) ∨ (y = 86 ∧ x = 85)) (L k : Nat) (v : Value) (xs : List Int) (hn : xs.length = k + 1) (hk : k ≤ 100000) (hy : xs.getD k 0 = y) (w : World) (hG : GrB w L v xs) (_ : L ≤ w.heap.size) :
    Calls Tryd.prog 34 #[v, .int .u8 x] w fun e w' => ∃ v', e = .returned v' ∧ GrB w' L v' (xs.take k) ∧ Below L w w' := by
  obtain ⟨g, cap, rfl, h1, h2, h3, h4, h5, h6⟩ := hG.last hn
  rw [hy] at h4
  have HN := Lib.hid hn
  clear hn hy hG
  have e1 : ((k + 1 : Nat) : Int) - 1 = k := by omega
  rcases hyx with ⟨rfl, rfl⟩ | ⟨rfl, rfl⟩ | ⟨rfl, rfl⟩
  all_goals
    go_enter Tryd.func34, Tryd.ntmps34
    go_wp2
    go_ret
    exact ⟨_, rfl, h6, Below.refl L w⟩
theorem put_two (y x z : Int) (hyx : (y = 85 ∧ x = 85 ∧ z = 86) ∨ (y = 86 ∧ x = 86 ∧ z = 85)) (L k : Nat) (v : Value) (xs : List Int) (hn : xs.length = k + 1) (hk : k ≤ 100000) (hy : xs.getD k 0 = y) (w : World) (hG : GrB w L v xs) (hL : L ≤ w.heap.size) :
    Calls Tryd.prog 34 #[v, .int .u8 x] w fun e w' => ∃ v', e = .returned v' ∧ GrB w' L v' (xs.take k ++ [z]) ∧ Below L w w' := by
  obtain ⟨g, cap, rfl, h1, h2, h3, h4, h5, h6⟩ := hG.last hn
  rw [hy] at h4
  have hl : (xs.take k).length = k := by rw [List.length_take, hn]; omega
  generalize hxt : xs.take k = xt at h6 hl ⊢
  subst hl
  clear hn hy hG hxt
  rcases hyx with ⟨rfl, rfl, rfl⟩ | ⟨rfl, rfl, rfl⟩
  · go_enter Tryd.func34, Tryd.ntmps34
    go_wp2_with (at_builtin; refine app8 rfl _ _ rfl L w (.slice (some ⟨g, 0, none⟩) xt.length cap) xt 86 rfl h6 w.heap.size rfl rfl (by omega) hL ?_; intro v' w1 hG1 hb1 _)
    go_ret
    exact ⟨_, rfl, hG1, hb1⟩
  · go_enter Tryd.func34, Tryd.ntmps34
    go_wp2_with (at_builtin; refine app8 rfl _ _ rfl L w (.slice (some ⟨g, 0, none⟩) xt.length cap) xt 85 rfl h6 w.heap.size rfl rfl (by omega) hL ?_; intro v' w1 hG1 hb1 _)
    go_ret
    exact ⟨_, rfl, hG1, hb1⟩
theorem put_app (y x : Int) (hyx : (y = 83 ∧ (x = 85 ∨ x = 86)) ∨ ((y = 85 ∨ y = 86) ∧ x = 83)) (L k : Nat) (v : Value) (xs : List Int) (hn : xs.length = k + 1) (hk : k ≤ 100000) (hy : xs.getD k 0 = y) (w : World) (hG : GrB w L v xs) (hL : L ≤ w.heap.size) :
    Calls Tryd.prog 34 #[v, .int .u8 x] w fun e w' => ∃ v', e = .returned v' ∧ GrB w' L v' (xs ++ [x]) ∧ Below L w w' := by
  obtain ⟨g, cap, hv, h1, h2, h3, h4, h5, h6⟩ := hG.last hn
  rw [hy] at h4
  have hG' : GrB w L (.slice (some ⟨g, 0, none⟩) xs.length cap) xs := by rw [hn, ← hv]; exact hG
  subst hv
  rw [← hn]
  have e1 : (xs.length : Int) - 1 = k := by omega
  have e2 : ¬ (xs.length : Int) = 0 := by omega
  have e3 : ((xs.length : Int) == 0) = false := by simpa using e2
  have e4 : k < xs.length := by omega
  have e5 : xs.length ≤ 200000 := by omega
  clear hn hy hG
  rcases hyx with ⟨rfl, rfl | rfl⟩ | ⟨rfl | rfl, rfl⟩
  all_goals
    go_enter Tryd.func34, Tryd.ntmps34
    go_wp2_with (at_builtin; refine app8 rfl _ _ rfl L w (.slice (some ⟨g, 0, none⟩) xs.length cap) xs _ rfl hG' w.heap.size rfl rfl (by omega) hL ?_; intro v' w1 hG1 hb1 _)
    go_ret
    exact ⟨_, rfl, hG1, hb1⟩
theorem nums_app (a b : List UInt8) : nums (a ++ b) = nums a ++ nums b := by simp [nums]
theorem nums_take (a : List UInt8) (k : Nat) : nums (a.take k) = (nums a).take k := by simp [nums]
/-- A letter put behind a free word. -/
theorem put_any (f : FW) (hf : f.len ≤ 100000) (x : UInt8) (f' : FW) (hx : (x = 83 ∧ f' = f.putS) ∨ (x = 85 ∧ f' = f.putX true) ∨ (x = 86 ∧ f' = f.putX false)) (L : Nat) (v : Value) (w : World) (hG : GrB w L v (nums f.bytes)) (hL : L ≤ w.heap.size) :
    Calls Tryd.prog 34 #[v, .int .u8 (x.toNat : Int)] w fun e w' => ∃ v', e = .returned v' ∧ GrB w' L v' (nums f'.bytes) ∧ Below L w w' := by
  have hb : f'.bytes = putB f.bytes x := by
    rcases hx with ⟨rfl, rfl⟩ | ⟨rfl, rfl⟩ | ⟨rfl, rfl⟩
    · exact (putB_S f).symm
    · exact (putB_X f true).symm
    · exact (putB_X f false).symm
  rw [hb]
  clear hb
  have hx' : x = 83 ∨ x = 85 ∨ x = 86 := by rcases hx with h | h | h <;> simp [h.1]
  clear hx
  have hlen : f.bytes.length ≤ 100000 := by rw [bytes_len]; exact hf
  unfold FW.bytes at hG hlen ⊢
  have hrb : f.rb = [] ∨ ∃ y r, f.rb = y :: r ∧ (y = 83 ∨ y = 85 ∨ y = 86) := by
    obtain ⟨p, e, h⟩ := f
    rcases h with _ | t
    · rcases p with _ | ⟨t, p⟩
      · cases e
        · exact .inl rfl
        · exact .inr ⟨83, [], rfl, .inl rfl⟩
      · exact .inr ⟨83, _, rfl, .inl rfl⟩
    · exact .inr ⟨tl t, _, rfl, by cases t <;> simp [tl]⟩
  generalize f.rb = l at *
  rcases hrb with rfl | ⟨y, r, rfl, hy⟩
  · exact put_nil _ L v w hG hL
  · rw [putB_rev]
    have hn : (nums (y :: r).reverse).length = r.length + 1 := by simp [nums]
    have hd : (nums (y :: r).reverse).getD r.length 0 = (y.toNat : Int) := by
      simp [nums, List.getD]
    have ht : (nums (y :: r).reverse).take r.length = nums r.reverse := by
      rw [← nums_take, List.reverse_cons, List.take_append_of_le_length (by simp), List.take_of_length_le (by simp)]
    have hk : r.length ≤ 100000 := by simp at hlen; omega
    rcases hx' with rfl | rfl | rfl <;> rcases hy with rfl | rfl | rfl
    · have := put_cut 83 83 (by simp) L r.length v _ hn hk hd w hG hL
      rw [ht] at this; exact this
    · have := put_app 85 83 (by simp) L r.length v _ hn hk hd w hG hL
      rw [if_pos (by decide), List.reverse_cons, nums_app]; exact this
    · have := put_app 86 83 (by simp) L r.length v _ hn hk hd w hG hL
      rw [if_pos (by decide), List.reverse_cons, nums_app]; exact this
    · have := put_app 83 85 (by simp) L r.length v _ hn hk hd w hG hL
      rw [if_pos (by decide), List.reverse_cons, nums_app]; exact this
    · have := put_two 85 85 86 (by simp) L r.length v _ hn hk hd w hG hL
      rw [ht] at this
      rw [if_neg (by decide), if_neg (by decide), if_pos (by decide), List.reverse_cons, nums_app]; exact this
    · have := put_cut 86 85 (by simp) L r.length v _ hn hk hd w hG hL
      rw [ht] at this; exact this
    · have := put_app 83 86 (by simp) L r.length v _ hn hk hd w hG hL
      rw [if_pos (by decide), List.reverse_cons, nums_app]; exact this
    · have := put_cut 85 86 (by simp) L r.length v _ hn hk hd w hG hL
      rw [ht] at this; exact this
    · have := put_two 86 86 85 (by simp) L r.length v _ hn hk hd w hG hL
      rw [ht] at this
      rw [if_neg (by decide), if_neg (by decide), if_neg (by decide), List.reverse_cons, nums_app]; exact this
end Go.Proofs.YtfgbmddmmgipnaaDoor
