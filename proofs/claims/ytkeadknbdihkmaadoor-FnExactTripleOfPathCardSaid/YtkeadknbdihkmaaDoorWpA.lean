/- The pair to which a step leads. -/
import Derived.Test.YtkeadknbdihkmaaDoorWpP
namespace Go.Proofs.YtkeadknbdihkmaaDoor
open Go.ChangeShapes Go.WideShapes Go.ChangeAt Go.RowKit

theorem product_is (u v p : ByteArray) (hu : u.size ≤ 10000) (hv : v.size ≤ 10000) (h1 : 1 ≤ v.size) (hp : u ++ v = p) (w : World) :
    Calls Tryd.prog 76 #[.agg #[.string u, .string v]] w fun e w' => e = .returned (.string p) ∧ Below w.heap.size w w' := hp ▸ product_any u v hu hv h1 w
theorem Box.put2S {w : World} {g : Nat} {x0 x1 : Value} (h : Box w g [x0, x1]) (y0 y1 : Value) :
    (w.setCell ⟨g, 0, none⟩ y0).cell? ⟨g, 0, none⟩ = some y0 ∧ ((w.setCell ⟨g, 0, none⟩ y0).setCell ⟨g, 1, none⟩ y1).cell? ⟨g, 0, none⟩ = some y0 ∧ ((w.setCell ⟨g, 0, none⟩ y0).setCell ⟨g, 1, none⟩ y1).cell? ⟨g, 1, none⟩ = some y1 :=
  ⟨((h.set 0 (by simp) y0).two).2.1, (h.put2 y0 y1).two.2.1, (h.put2 y0 y1).two.2.2.1⟩
set_option maxHeartbeats 2000000 in
theorem after_no (u v : ByteArray) (x : Int) (h1 : (x == 76) = false) (h2 : (x == 82) = false) (w : World) :
    Calls Tryd.prog 77 #[.agg #[.string u, .string v], .int .u8 x] w fun e w' => e = .returned (.agg #[.string u, .string v]) ∧ Below w.heap.size w w' := by
  go_enter Tryd.func77, Tryd.ntmps77
  go_wp2
  exact bodyPost_ret (v := .agg #[.string u, .string v]) (by simp [results, Tryd.results77, go_sem]) rfl ⟨rfl, by repeat (first | with_reducible exact own_refl _ | with_reducible assumption | with_reducible apply own_alloc | with_reducible apply own_drewN | with_reducible apply own_drew | ((with_reducible refine own_setCell ?_ ?_ _); rotate_left; focus (first | (simp; done) | (simp; omega))) | (with_reducible (refine own_trans ?_ (by assumption))))⟩
set_option maxHeartbeats 2000000 in
theorem after_L (u v p : ByteArray) (hu : u.size ≤ 10000) (hv : v.size ≤ 10000) (h1 : 1 ≤ v.size) (hp : u ++ v = p) (w : World) :
    Calls Tryd.prog 77 #[.agg #[.string u, .string v], .int .u8 76] w fun e w' => e = .returned (.agg #[.string u, .string p]) ∧ Below w.heap.size w w' := by
  have HP := Lib.hid (fun w => product_is u v p hu hv h1 hp w)
  clear hp
  have BA : Box ((w.alloc (.cells #[.string u, .string v] 74)).alloc (.cells #[.string ByteArray.empty, .string ByteArray.empty] 74)) w.heap.size [.string u, .string v] := Box.alloc (Box.new _ _ _) _
  have BR : Box ((w.alloc (.cells #[.string u, .string v] 74)).alloc (.cells #[.string ByteArray.empty, .string ByteArray.empty] 74)) (w.heap.size + 1) [.string ByteArray.empty, .string ByteArray.empty] := Box.newAt (by simp) _ _
  have T : Below w.heap.size w ((w.alloc (.cells #[.string u, .string v] 74)).alloc (.cells #[.string ByteArray.empty, .string ByteArray.empty] 74)) := by repeat (first | with_reducible exact own_refl _ | with_reducible assumption | with_reducible apply own_alloc | with_reducible apply own_drewN | with_reducible apply own_drew | ((with_reducible refine own_setCell ?_ ?_ _); rotate_left; focus (first | (simp; done) | (simp; omega))) | (with_reducible (refine own_trans ?_ (by assumption))))
  go_enter Tryd.func77, Tryd.ntmps77
  go_upto_region 3 with fail
  go_cut [] (fun wx => Below w.heap.size w wx ∧ Box wx (w.heap.size + 1) [.string u, .string p])
  case first =>
    go_region_held3 (fun w' => w'.cell? ⟨w.heap.size, 0, none⟩ = some (.string u) ∧ w'.cell? ⟨w.heap.size, 1, none⟩ = some (.string v)) (go_keep)
      (first | (go_at_call 76; refine (HP.out _).mono ?_; rintro e w1 ⟨rfl, hb1⟩; have T := (by first | exact own_trans T hb1 | exact own_trans (own_drew T) hb1 : Below w.heap.size w w1); have BA := Box.below (by first | exact BA | exact Box.drew BA) hb1; have BR := Box.below (by first | exact BR | exact Box.drew BR) hb1; obtain ⟨_, _, _, _, _⟩ := BA.two; obtain ⟨_, _, _, _, _⟩ := BR.two))
    all_goals
      go_wp2_with fail
      go_meet
      exact ⟨by repeat (first | with_reducible exact own_refl _ | with_reducible assumption | with_reducible apply own_alloc | with_reducible apply own_drewN | with_reducible apply own_drew | ((with_reducible refine own_setCell ?_ ?_ _); rotate_left; focus (first | (simp; done) | (simp; omega))) | (with_reducible (refine own_trans ?_ (by assumption)))), BR.put2 _ _⟩
  case rest =>
    obtain ⟨T, BR⟩ := hcut
    obtain ⟨_, d0, d1, _, _⟩ := BR.two
    go_wp2
    exact bodyPost_ret (v := .agg #[.string u, .string p]) (by simp [results, Tryd.results77, go_sem, d0, d1]) rfl ⟨rfl, T⟩
set_option maxHeartbeats 2000000 in
theorem after_R (u v p : ByteArray) (hu : u.size ≤ 10000) (hv : v.size ≤ 10000) (h1 : 1 ≤ v.size) (hp : u ++ v = p) (w : World) :
    Calls Tryd.prog 77 #[.agg #[.string u, .string v], .int .u8 82] w fun e w' => e = .returned (.agg #[.string p, .string v]) ∧ Below w.heap.size w w' := by
  have HP := Lib.hid (fun w => product_is u v p hu hv h1 hp w)
  clear hp
  have BA : Box ((w.alloc (.cells #[.string u, .string v] 74)).alloc (.cells #[.string ByteArray.empty, .string ByteArray.empty] 74)) w.heap.size [.string u, .string v] := Box.alloc (Box.new _ _ _) _
  have BR : Box ((w.alloc (.cells #[.string u, .string v] 74)).alloc (.cells #[.string ByteArray.empty, .string ByteArray.empty] 74)) (w.heap.size + 1) [.string ByteArray.empty, .string ByteArray.empty] := Box.newAt (by simp) _ _
  have T : Below w.heap.size w ((w.alloc (.cells #[.string u, .string v] 74)).alloc (.cells #[.string ByteArray.empty, .string ByteArray.empty] 74)) := by repeat (first | with_reducible exact own_refl _ | with_reducible assumption | with_reducible apply own_alloc | with_reducible apply own_drewN | with_reducible apply own_drew | ((with_reducible refine own_setCell ?_ ?_ _); rotate_left; focus (first | (simp; done) | (simp; omega))) | (with_reducible (refine own_trans ?_ (by assumption))))
  go_enter Tryd.func77, Tryd.ntmps77
  go_upto_region 5 with fail
  go_cut [] (fun wx => Below w.heap.size w wx ∧ Box wx (w.heap.size + 1) [.string p, .string v])
  case first =>
    go_region_held3 (fun w' => w'.cell? ⟨w.heap.size, 0, none⟩ = some (.string u) ∧ w'.cell? ⟨w.heap.size, 1, none⟩ = some (.string v)) (go_keep)
      (first | (go_at_call 76; refine (HP.out _).mono ?_; rintro e w1 ⟨rfl, hb1⟩; have T := (by first | exact own_trans T hb1 | exact own_trans (own_drew T) hb1 : Below w.heap.size w w1); have BA := Box.below (by first | exact BA | exact Box.drew BA) hb1; have BR := Box.below (by first | exact BR | exact Box.drew BR) hb1; obtain ⟨_, _, _, _, _⟩ := BA.two; obtain ⟨_, _, _, _, _⟩ := BR.two))
    all_goals
      go_wp2_with fail
      go_meet
      exact ⟨by repeat (first | with_reducible exact own_refl _ | with_reducible assumption | with_reducible apply own_alloc | with_reducible apply own_drewN | with_reducible apply own_drew | ((with_reducible refine own_setCell ?_ ?_ _); rotate_left; focus (first | (simp; done) | (simp; omega))) | (with_reducible (refine own_trans ?_ (by assumption)))), BR.put2 _ _⟩
  case rest =>
    obtain ⟨T, BR⟩ := hcut
    obtain ⟨_, d0, d1, _, _⟩ := BR.two
    go_wp2
    exact bodyPost_ret (v := .agg #[.string p, .string v]) (by simp [results, Tryd.results77, go_sem, d0, d1]) rfl ⟨rfl, T⟩
end Go.Proofs.YtkeadknbdihkmaaDoor
