/- impl.parseNumber: contract. -/
import Derived.Test.YtfgbmddmmgipnaaDoorSpn
namespace Go.Proofs.YtfgbmddmmgipnaaDoor
open Go.ChangeShapes Go.WideShapes Go.ChangeAt Go.RowKit

/-- what parseNumber tells of a text -/
def PnR (x : ByteArray) (v : Int) (b : Bool) : Prop := (b = true → toL x = Lib.itoa v ∧ I64 v) ∧ (b = false → ∀ m : Int, I64 m → toL x ≠ Lib.itoa m)
set_option maxRecDepth 100000 in
set_option maxHeartbeats 4000000 in
theorem parseNumber_any (x : ByteArray) (hxs : x.size ≤ 1048576) (w : World) (hL : Lb w) :
    Calls Tryd.prog 28 #[.string x] w fun e w' => ∃ v b, e = .returned (.tuple #[(.int .i64 v), .bool b]) ∧ Hid (PnR x v b) ∧ Below w.heap.size w w' := by
  by_cases hpv : ∃ v, Lib.parseIntB 64 (toL x) = .ok v
  · obtain ⟨v, hv⟩ := hpv
    have HV := Lib.hid hv
    have hvb := Lib.parseIntB_bounds hv
    have HPY := Lib.hid (fun w => parse_yes x hxs v hv w)
    have hvi : I64 v := by unfold I64; omega
    have HLB := Lib.hid hL
    clear hv hvb hL
    go_enter Tryd.func28, Tryd.ntmps28
    go_wp2_with fail
    refine (HPY.out _).mono ?_
    rintro e w2 ⟨rfl, hb2⟩
    have LB2 := HLB.out.below hb2
    have HFM := Lib.hid (fmt_any v hvi w2 LB2.1)
    by_cases hEq : itoaB v = x
    · have HE := Lib.hid (show toL x = Lib.itoa v by rw [← hEq]; simp [toL, itoaB])
      rw [hEq] at HFM
      have HVI := Lib.hid hvi
      clear hEq
      go_wp2_with fail
      refine HFM.out.mono ?_
      rintro e w3 ⟨rfl, hb3⟩
      go_wp2
      go_ret2
      exact ⟨v, true, rfl, Lib.hid ⟨fun _ => ⟨HE.out, HVI.out⟩, fun h => by cases h⟩, own_trans hb2 hb3⟩
    · obtain ⟨z, hz'⟩ : ∃ z, itoaB v = z := ⟨_, rfl⟩
      have HNE := Lib.hid (show ∀ m : Int, I64 m → toL x ≠ Lib.itoa m by
        intro m hm he
        have hp := HV.out
        rw [he, parse_itoa m (by unfold I64 at hm; omega) (by unfold I64 at hm; omega)] at hp
        injection hp with hp
        subst hp
        apply hEq
        apply ByteArray.ext
        rw [show x.data = ⟨toL x⟩ from rfl, he]
        simp [itoaB])
      rw [hz'] at hEq HFM
      have hn1 : (z.toList == x.toList) = false := by
        rw [beq_eq_false_iff_ne]
        intro e
        rw [ByteArray.toList_eq, ByteArray.toList_eq] at e
        exact hEq (ByteArray.ext (Array.toList_inj.1 e))
      clear hz'
      go_wp2_with fail
      refine HFM.out.mono ?_
      rintro e w3 ⟨rfl, hb3⟩
      go_wp2
      go_ret2
      exact ⟨v, false, rfl, Lib.hid ⟨fun h => (by cases h), fun _ => HNE.out⟩, own_trans hb2 hb3⟩
  · have HPN := Lib.hid (fun w h => parse_no x hxs (fun v hv => hpv ⟨v, hv⟩) w h)
    have HNO := Lib.hid hpv
    have HLB := Lib.hid hL
    clear hpv hL
    go_enter Tryd.func28, Tryd.ntmps28
    go_wp2_with fail
    refine (HPN.out _ HLB.out).mono ?_
    rintro e w2 ⟨y, te, pe, rfl, hb2⟩
    go_wp2
    go_ret2
    refine ⟨y, false, rfl, Lib.hid ⟨fun h => (by cases h), fun _ m hm h2 => ?_⟩, by repeat (first | with_reducible exact own_refl _ | with_reducible assumption | with_reducible apply own_alloc | with_reducible apply own_drewN | with_reducible apply own_drew | ((with_reducible refine own_setCell ?_ ?_ _); rotate_left; focus (first | (simp; done) | (simp; omega))) | (with_reducible (refine own_trans ?_ (by assumption))))⟩
    unfold I64 at hm
    exact HNO.out ⟨m, by rw [h2]; exact parse_itoa m (by omega) (by omega)⟩
end Go.Proofs.YtfgbmddmmgipnaaDoor
