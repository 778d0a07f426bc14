/- ActionOfLevel: the program's side. -/
import Derived.Test.YtdcomnnpnhinfaaDoorKep
import Derived.Test.YtdcomnnpnhinfaaDoorMxS
import Derived.Test.YtdcomnnpnhinfaaDoorIdx
import Derived.Test.YtdcomnnpnhinfaaDoorRunI
import Derived.Test.YtdcomnnpnhinfaaDoorAcA
namespace Go.Proofs.YtdcomnnpnhinfaaDoor
open Go.ChangeShapes Go.WideShapes Go.ChangeAt Go.RowKit

def RetAl (p q : List Int) (kc : Int) (w : World) (e : Ending) (w' : World) : Prop :=
  ∃ v, e = .returned (.tuple #[v, (.int .i64 kc)]) ∧ AcR w' w.heap.size v p q ∧ Below w.heap.size w w'
theorem nilAl {w w' : World} (hb : Below w.heap.size w w') (kc : Int) : RetAl [] [] kc w (.returned (.tuple #[.agg #[.slice none 0 0, .slice none 0 0], (.int .i64 kc)])) w' :=
  ⟨_, rfl, AcR.nil _ _, hb⟩
theorem isP_T {n c d : Int} (h : isP n c d = true) : isP n c (c + d) = true := by
  unfold isP at *
  rw [show Int.gcd c (c + d) = Int.gcd c d by simp]
  exact h
/-- the index that IndexOf tells -/
def ixL (n : Int) : Int := md 999 2 (n * n * n) n / (n * ((cop n n.toNat).length : Int))
theorem implAl_no (n : Int) (hn : inR n 1 60 = false) (w : World) : Calls Tryd.prog 9 #[(.int .i64 n)] w (RetAl [] [] 2 w) := by
  have HN := Lib.hid hn
  clear hn
  go_enter Tryd.func9, Tryd.ntmps9
  go_wp2_with fail
  refine (isLevel_is false _ HN.out _).mono ?_
  rintro e w2 ⟨rfl, rfl⟩
  have B : Box (w.alloc (.cells #[.slice none 0 0, .slice none 0 0] 24)) w.heap.size [.slice none 0 0, .slice none 0 0] := Box.new _ _ _
  have T := own_alloc (own_refl w) (.cells #[.slice none 0 0, .slice none 0 0] 24)
  generalize w.alloc (.cells #[.slice none 0 0, .slice none 0 0] 24) = w1 at *
  obtain ⟨-, d0, d1, f0, f1⟩ := B.two
  have C9 := B.put2 (.slice none 0 0) (.slice none 0 0)
  obtain ⟨-, x0, x1, -, -⟩ := C9.two
  have T9 := own_setCell (own_setCell T (p := ⟨w.heap.size, 0, none⟩) (by simp) (.slice none 0 0)) (p := ⟨w.heap.size, 1, none⟩) (by simp) (.slice none 0 0)
  go_wp2
  exact bodyPost_ret (v := .tuple #[.agg #[.slice none 0 0, .slice none 0 0], (.int .i64 2)]) (by simp [results, Tryd.results9, go_sem, x0, x1]) rfl (nilAl T9 2)
set_option maxHeartbeats 4000000 in
theorem implAl_big (n : Int) (hn : inR n 1 60 = true) (hx : 72 < ixL n) (w : World) : Calls Tryd.prog 9 #[(.int .i64 n)] w (RetAl [] [] 3 w) := by
  have hn' : 1 ≤ n ∧ n ≤ 60 := of_decide_eq_true hn
  have HN := Lib.hid hn
  have HI := Lib.hid (fun w => implIdx_0 n hn'.1 (by omega) w)
  change Hid (∀ w, Calls Tryd.prog 33 #[(.int .i64 0), (.int .i64 n)] w fun e w' => e = .returned (.tuple #[(.int .i64 (ixL n)), (.int .i64 0)]) ∧ Below w.heap.size w w') at HI
  generalize ixL n = x at *
  clear hn hn'
  go_enter Tryd.func9, Tryd.ntmps9
  go_wp2_with fail
  refine (isLevel_is true _ HN.out _).mono ?_
  rintro e w2 ⟨rfl, rfl⟩
  have B : Box (w.alloc (.cells #[.slice none 0 0, .slice none 0 0] 24)) w.heap.size [.slice none 0 0, .slice none 0 0] := Box.new _ _ _
  have T := own_alloc (own_refl w) (.cells #[.slice none 0 0, .slice none 0 0] 24)
  generalize w.alloc (.cells #[.slice none 0 0, .slice none 0 0] 24) = w1 at *
  go_wp2_with fail
  refine (HI.out _).mono ?_
  rintro e w3 ⟨rfl, hb3⟩
  have B := B.below hb3
  have T := own_trans T hb3
  clear hb3
  obtain ⟨-, d0, d1, f0, f1⟩ := B.two
  have C9 := B.put2 (.slice none 0 0) (.slice none 0 0)
  obtain ⟨-, x0, x1, -, -⟩ := C9.two
  have T9 := own_setCell (own_setCell T (p := ⟨w.heap.size, 0, none⟩) (by simp) (.slice none 0 0)) (p := ⟨w.heap.size, 1, none⟩) (by simp) (.slice none 0 0)
  go_wp2
  exact bodyPost_ret (v := .tuple #[.agg #[.slice none 0 0, .slice none 0 0], (.int .i64 3)]) (by simp [results, Tryd.results9, go_sem, x0, x1]) rfl (nilAl T9 3)
end Go.Proofs.YtdcomnnpnhinfaaDoor
