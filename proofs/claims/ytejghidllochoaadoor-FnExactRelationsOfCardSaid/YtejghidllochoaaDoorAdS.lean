/- impl.addSymbols: contract. -/
import Derived.Test.YtejghidllochoaaDoorSym
import Derived.Test.YtejghidllochoaaDoorMS
namespace Go.Proofs.YtejghidllochoaaDoor
open Go.ChangeShapes Go.WideShapes Go.ChangeAt Go.RowKit

theorem mem_at {ss : List Nat} {k : Nat} (hk : k < ss.length) : ss.getD k 0 ∈ ss := by
  simp only [List.getD, List.getElem?_eq_getElem hk, Option.getD_some]
  exact List.getElem_mem hk
set_option maxHeartbeats 2000000 in
theorem addSymbols_is (xs : List Int) (ss : List Nat) (g cap o N cN gs cs L T m : Nat) (w : World) (hT : xs.length = T) (hm : ss.length = m) (hG : Gr w L (.slice (some ⟨g, 0, none⟩) T cap) xs)
    (hgs : gs < w.heap.size) (hs : ∀ k, k < m → w.cell? ⟨gs, k, none⟩ = some (.int .i64 ((ss.getD k 0 : Nat)))) (hne : gs ≠ g) (hlt : ∀ s ∈ ss, s < N) (hN : o + N ≤ T) (hx : T ≤ 1000000) (hss : m ≤ 100) (hb : ∀ q, 0 ≤ xs.getD q 0 ∧ xs.getD q 0 ≤ 100) :
    Calls Tryd.prog 40 #[.slice (some ⟨g, o, none⟩) N cN, .slice (some ⟨gs, 0, none⟩) m cs] w fun e w' => (∃ v, e = .returned v) ∧ Gr w' L (.slice (some ⟨g, 0, none⟩) T cap) (addS xs o ss) ∧ w.grownBy w' (some g) := by
  have HS := Lib.hid hs
  have HL := Lib.hid hlt
  have HB := Lib.hid (fun k => addS_bd (o := o) (ss.take k) xs 100 hb (fun s hs => by have := hlt s (List.mem_of_mem_take hs); omega))
  have HG := Lib.hid hG
  have HM := Lib.hid (And.intro hT hm)
  clear hs hlt hb hG hT hm
  go_enter Tryd.func40, Tryd.ntmps40
  go_wp2
  go_loopw [8] (fun i wr => ∃ k : Nat, k ≤ m ∧ i = (.int .i64 ((k : Int))) ∧ Gr wr L (.slice (some ⟨g, 0, none⟩) T cap) (addS xs o (ss.take k)) ∧ w.grownBy wr (some g)) (fun i _ => m - (intOf i).toNat)
  case atStart => exact ⟨0, Nat.zero_le _, rfl, HG.out, DRR w _⟩
  case round =>
    obtain ⟨k, hk, rfl, hG, hg⟩ := hrel
    by_cases hlt : k < m
    · have hks : k < ss.length := by rw [HM.out.2]; exact hlt
      obtain ⟨s, hse⟩ : ∃ s, ss.getD k 0 = s := ⟨_, rfl⟩
      have c1 : wr.cell? ⟨gs, k, none⟩ = some (.int .i64 ((s : Nat))) := by
        rw [World.cell?_of_block (a := ⟨gs, k, none⟩) (hg.block gs hgs (fun e => by injection e with e; exact hne e)), ← hse]
        exact HS.out k hlt
      have hsN : s < N := by rw [← hse]; exact HL.out _ (mem_at hks)
      have HST : Hid (addS xs o (ss.take (k + 1)) = bmp (addS xs o (ss.take k)) (o + s)) := Lib.hid (by rw [addS_step hks, hse])
      have hyl : (addS xs o (ss.take k)).length = T := by rw [addS_len]; exact HM.out.1
      have hbd := HB.out k (o + s)
      have hkl : (ss.take k).length ≤ k := by simp; omega
      obtain ⟨ys, hys⟩ : ∃ ys, addS xs o (ss.take k) = ys := ⟨_, rfl⟩
      rw [hys] at hG hyl hbd HST
      obtain ⟨x, hx⟩ : ∃ x, ys.getD (o + s) 0 = x := ⟨_, rfl⟩
      rw [hx] at hbd
      obtain ⟨g', e', _, _, hc⟩ := hG.cellsZ (by omega)
      injection e' with e'
      injection e' with e'
      subst e'
      obtain ⟨c2, f2⟩ := hc (o + s) (by omega)
      rw [hx] at c2
      have HP : Hid (Gr (wr.setCell ⟨g, o + s, none⟩ (.int .i64 (x + 1))) L (.slice (some ⟨g, 0, none⟩) T cap) (addS xs o (ss.take (k + 1)))) := Lib.hid (by
        have h := Gr.putZ (k := o + s) (y := x + 1) (show Gr wr L (.slice (some ⟨g, 0, none⟩) ys.length cap) ys by rw [hyl]; exact hG) (by omega)
        rw [hyl] at h
        rw [HST.out, bmp, hx]
        exact h)
      have HW : Hid (w.grownBy (wr.setCell ⟨g, o + s, none⟩ (.int .i64 (x + 1))) (some g)) := Lib.hid (World.grownBy.trans hg (setRow wr ⟨g, o + s, none⟩ (.int .i64 (x + 1))))
      obtain ⟨_, _⟩ := hbd
      have hw1 : IntKind.i64.wrap (x + 1) = x + 1 := IntWalk.i64_in _ (by omega)
      clear hc hG hys hx hse hyl
      go_wp2
      go_roundw
      case rel => exact ⟨k + 1, by omega, by go_num, HP.out, HW.out⟩
      case measure => simp [intOf]; omega
    · obtain rfl : k = m := by omega
      have hE : ss.take k = ss := by rw [← HM.out.2, List.take_length]
      rw [hE] at hG
      go_wp2
      go_end0
      exact ⟨⟨_, rfl⟩, hG, hg⟩
end Go.Proofs.YtejghidllochoaaDoor
