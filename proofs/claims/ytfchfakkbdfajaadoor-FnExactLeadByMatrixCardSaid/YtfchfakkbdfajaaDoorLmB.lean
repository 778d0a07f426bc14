/- Points led by powers of T. -/
import Derived.Test.YtfchfakkbdfajaaDoorLdB
import Derived.Test.YtfchfakkbdfajaaDoorRest
import Derived.Test.YtfchfakkbdfajaaDoorNm
namespace Go.Proofs.YtfchfakkbdfajaaDoor
open Go.ChangeShapes Go.WideShapes Go.ChangeAt Go.RowKit

theorem orb_fuel {t : List Int} {i : Nat} : ∀ (f m j : Nat), Rch t i f j → f ≤ m → orb t i m j = orb t i f j
  | 0, m, j, h, _ => by
    have := h.zero
    subst this
    rw [orb_no, orb_no]
  | f + 1, 0, j, _, h => by omega
  | f + 1, m + 1, j, h, hm => by
    by_cases e : j = i
    · simp [orb, e]
    · rw [orb, if_neg e, orb, if_neg e, orb_fuel f m _ (h.next e) (by omega)]
/-- a point led by the q-th power of T -/
def pw (t : List Int) (n : Nat) (q : Int) (i : Nat) : Nat := itr t (rst q ((cyc t i n).length : Int)).toNat i
theorem pw_lt {t : List Int} {n : Nat} (ht : Pm t n) (q : Int) {i : Nat} (hi : i < n) : pw t n q i < n := itr_lt ht _ hi
set_option maxHeartbeats 4000000 in
theorem byPow_is (a b : Value) (s t : List Int) (n : Nat) (hn : n ≤ 1000) (hs : Pm s n) (ht : Pm t n) (q : Int) (hq : I64 q) (i : Nat) (hi : i < n) (w : World) (ha : Rl w a s) (hb : Rl w b t) :
    Calls Tryd.prog 45 #[.agg #[a, b], (.int .i64 q), (.int .i64 ((i : Int)))] w fun e w' => e = .returned (.int .i64 (((pw t n q i : Nat) : Int))) ∧ Below w.heap.size w w' := by
  have HT := Lib.hid (fun i (hi : i < n) w' (h : Below w.heap.size w w') => byT_is a b s t n hs ht i hi w' (ha.below h) (hb.below h))
  have HP := Lib.hid ht
  have hcl := (cyc_len ht hi).2
  have hc0 : 0 < (cyc t i n).length := by simp [cyc]
  have HR0 : Hid (Rch t i (n - 1) (pt t i)) := Lib.hid (rch_of ht hi)
  have HC : Hid ([(i : Int)] ++ orb t i (n - 1) (pt t i) = cyc t i n) := Lib.hid (by rw [cyc, orb_fuel (n - 1) n _ (rch_of ht hi) (by omega)]; rfl)
  have hpi := (ht.at hi).2
  have hrb := rst_bd (x := q) (n := ((cyc t i n).length : Int)) (by omega)
  have HV := Lib.hid (cyc_at (t := t) (i := i) (n := n) (a := (rst q ((cyc t i n).length : Int)).toNat) (by omega))
  have HRo := Lib.hid (restOf_any q ((cyc t i n).length : Int) (by omega) (by omega) hq)
  have HPW : Hid (pw t n q i = itr t (rst q ((cyc t i n).length : Int)).toNat i) := Lib.hid rfl
  obtain ⟨r, hr⟩ : ∃ r : Nat, rst q ((cyc t i n).length : Int) = r := ⟨(rst q ((cyc t i n).length : Int)).toNat, by omega⟩
  rw [hr] at HV HRo HPW hrb
  simp only [Int.toNat_natCast] at HV HPW
  obtain ⟨res, hres⟩ : ∃ res, pw t n q i = res := ⟨_, rfl⟩
  rw [hres] at HPW ⊢
  rw [← HPW.out] at HV
  obtain ⟨g, c, rfl, _⟩ := ha.at (by rw [hs.len]; omega)
  obtain ⟨g', c', rfl, _⟩ := hb.at (by rw [ht.len]; omega)
  rw [hs.len, ht.len] at *
  obtain ⟨cy, hcy⟩ : ∃ cy, cyc t i n = cy := ⟨_, rfl⟩
  rw [hcy] at HC HV hcl hc0 HRo hrb
  clear hs ht ha hb hr hres hcy
  have B0 : Box (w.alloc (.cells #[.slice (some ⟨g, 0, none⟩) n c, .slice (some ⟨g', 0, none⟩) n c'] 28)) w.heap.size [.slice (some ⟨g, 0, none⟩) n c, .slice (some ⟨g', 0, none⟩) n c'] := Box.new _ _ _
  have T0 := own_alloc (own_refl w) (.cells #[.slice (some ⟨g, 0, none⟩) n c, .slice (some ⟨g', 0, none⟩) n c'] 28)
  have hsz : (w.alloc (.cells #[.slice (some ⟨g, 0, none⟩) n c, .slice (some ⟨g', 0, none⟩) n c'] 28)).heap.size = w.heap.size + 1 := by simp
  go_enter Tryd.func45, Tryd.ntmps45
  go_upto_region 1 with fail
  generalize w.alloc (.cells #[.slice (some ⟨g, 0, none⟩) n c, .slice (some ⟨g', 0, none⟩) n c'] 28) = w0 at *
  have G1 : Gr (w0.alloc (.cells #[(.int .i64 ((i : Int)))] 2)) (w.heap.size + 1) (.slice (some ⟨w0.heap.size, 0, none⟩) 1 1) [(i : Int)] := World.ownsRow_lit w0 #[(.int .i64 ((i : Int)))] 1 (by omega) (by unfold maxLen; omega) rfl
  have T1 := own_alloc T0 (.cells #[(.int .i64 ((i : Int)))] 2)
  have B1 := B0.alloc (.cells #[(.int .i64 ((i : Int)))] 2)
  rw [hsz] at G1
  clear B0 T0
  go_upto_region 2 with fail
  generalize w0.alloc (.cells #[(.int .i64 ((i : Int)))] 2) = w1 at *
  obtain ⟨-, c0, c1, -, -⟩ := B1.two
  go_wp2_with fail
  refine (HT.out i hi _ T1).mono ?_
  rintro e w2 ⟨rfl, hb2⟩
  have T2 := own_trans T1 hb2
  have G2 := G1.own hb2
  have B2 := B1.below hb2
  clear hb2 T1 G1 B1 c0 c1
  generalize hpj : pt t i = j0 at *
  try rw [hsz]
  go_wp2_with fail
  go_loopw [7, 8] (fun v y wr => ∃ (f j : Nat) (pre : List Int), y = (.int .i64 ((j : Int))) ∧ j < n ∧ Hid (Rch t i f j) ∧ Hid (pre ++ orb t i f j = cy) ∧ pre.length + f ≤ n ∧ Gr wr (w.heap.size + 1) v pre ∧ Below w.heap.size w wr ∧
    Box wr w.heap.size [.slice (some ⟨g, 0, none⟩) n c, .slice (some ⟨g', 0, none⟩) n c']) (fun v _ _ => n - lenOf v)
  case atStart => exact ⟨n - 1, j0, _, rfl, hpi, HR0, HC, by simp; omega, G2, T2, B2⟩
  case round =>
    clear T2 G2 B2 HR0 HC hpi hpj
    obtain ⟨f, j, pre, rfl, hj, HR, HC, hpf, G, T, B⟩ := hrel
    obtain ⟨ad, cap, e⟩ := G.shape
    subst e
    obtain ⟨-, c0, c1, -, -⟩ := B.two
    by_cases hji : j = i
    · have HE : Hid (pre = cy) := Lib.hid (by have h := HC.out; rw [hji, orb_no, List.append_nil] at h; exact h)
      have hpl : pre.length = cy.length := by rw [HE.out]
      rw [hpl] at G ⊢
      obtain ⟨gc, rfl, _, _, hcs⟩ := G.cellsZ hc0
      have cv := (hcs r (by omega)).1
      rw [HE.out, HV.out] at cv
      subst hji
      clear HC HR hcs
      generalize cy.length = L at *
      go_wp2_with fail
      refine (HRo.out _).mono ?_
      rintro e w3 ⟨rfl, rfl⟩
      go_wp2
      go_ret
      exact ⟨rfl, T⟩
    · have hf0 : 0 < f := by
        rcases Nat.eq_zero_or_pos f with h | h
        · subst h; exact absurd HR.out.zero hji
        · exact h
      obtain ⟨f, rfl⟩ : ∃ f', f = f' + 1 := ⟨f - 1, by omega⟩
      have HR2 : Hid (Rch t i f (pt t j)) := Lib.hid (HR.out.next hji)
      have HC2 : Hid ((pre ++ [(j : Int)]) ++ orb t i f (pt t j) = cy) := Lib.hid (by
        have h := HC.out
        rw [orb_yes hji] at h
        rw [← h, List.append_assoc]; rfl)
      have hp2 := (HP.out.at hj).2
      have HTj := Lib.hid (HT.out j hj)
      have hx : ¬ (j : Int) = (i : Int) := by omega
      have hwz : w.heap.size + 1 ≤ wr.heap.size := by have := B.1; omega
      have hwo : (Value.slice ad pre.length cap).ownBlock ≠ some w.heap.size := fun h => by have := (G.lt _ h).1; omega
      clear HC HR hji
      generalize pt t j = j2 at *
      go_wp2_with (at_builtin; refine app64At rfl _ _ rfl (w.heap.size + 1) wr (.slice ad pre.length cap) pre (j : Int) rfl G wr.heap.size rfl rfl (by omega) hwz ?_; intro v' w3 G3 hgr3 hat3 hb3; have B3 := B.grown hgr3 hwo; have T3 := T.trans (hb3.mono (by omega)); obtain ⟨-, c30, c31, -, -⟩ := B3.two)
      refine (HTj.out _ T3).mono ?_
      rintro e w4 ⟨rfl, hb4⟩
      have T4 := own_trans T3 hb4
      have G4 := G3.own hb4
      have B4 := B3.below hb4
      go_wp2
      go_roundw
      case rel => exact ⟨f, j2, _, rfl, hp2, HR2, HC2, by simp; omega, G4, T4, B4⟩
      case measure =>
        have h5 := G4.len
        rw [h5]
        simp only [lenOf, List.length_append, List.length_cons, List.length_nil]
        omega
end Go.Proofs.YtfchfakkbdfajaaDoor
