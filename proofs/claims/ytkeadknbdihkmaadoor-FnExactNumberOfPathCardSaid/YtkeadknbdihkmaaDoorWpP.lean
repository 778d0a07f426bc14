/- The product of two words of a pair: cut out of one row. -/
import Derived.Test.YtkeadknbdihkmaaDoorB3
import Derived.Test.YtkeadknbdihkmaaDoorIdxS
import Derived.Lib.LazyBuf
import Derived.Deep.RegionLaw
namespace Go.Proofs.YtkeadknbdihkmaaDoor
open Go.ChangeShapes Go.WideShapes Go.ChangeAt Go.RowKit

theorem info_u8 : (Tryd.prog.info? 5).map (fun i => (i.zero, i.size, i.bytes)) = some (some (.int .u8 0), 1, 1) := by kernel_rfl
theorem makeB (a b : Nat) (hn : a + b ≤ 1000000) : ∃ cur : Array Value, cur.size = a + b ∧ ∀ w : World, (Instr.makeSlice 96 (.int .i64 ((a : Int) + (b : Int))) (.int .i64 ((a : Int) + (b : Int)))).run Tryd.prog w =
    .ok (.slice (some ⟨w.heap.size, 0, none⟩) (a + b) (a + b)) (w.alloc (.cells cur 5)) := by
  obtain ⟨i0, hi, hz0, hz1, hz2⟩ := info_parts info_u8
  refine ⟨madeCells (Value.int .u8 0).cells ((a + b) * 1), by rw [size_madeCells]; simp, fun w => ?_⟩
  have h := run_make (P := Tryd.prog) (w := w) 96 5 i0 (.int .u8 0) Tryd.underlying96 hi hz0 .i64 .i64 ((a : Int) + (b : Int)) ((a : Int) + (b : Int)) (by omega) (Int.le_refl _) (by rw [hz2]; omega) (by omega)
  have e : ((a : Int) + (b : Int)).toNat = a + b := by omega
  rw [e] at h
  rw [h, hz1]
/-- a row of n cells that may be written -/
def RowB (w : World) (g n : Nat) : Prop := g < w.heap.size ∧ ∀ j, j < n → (w.cell? ⟨g, j, none⟩).isSome = true ∧ w.frozen? ⟨g, j, none⟩ = false
theorem RowB.made {w : World} {g n : Nat} {cur : Array Value} {t : TypeId} (hg : w.heap.size = g) (hc : cur.size = n) : RowB (w.alloc (.cells cur t)) g n := by
  subst hg hc
  have hb : (w.alloc (.cells cur t)).heap[w.heap.size]? = some (.cells cur t (0, 0)) := heap_alloc_new w _
  refine ⟨by simp, fun j hj => ?_⟩
  constructor
  · simp only [World.cell?, hb]; simp [hj]
  · simp only [World.frozen?, hb]; simp
/-- the bytes of a text as values -/
def byV (u : ByteArray) : List Value := u.data.toList.map fun x => Value.int .u8 (x.toNat : Int)
theorem byV_len (u : ByteArray) : (byV u).length = u.size := by unfold byV; rw [List.length_map]; exact Array.length_toList
theorem app_bytes (u v : ByteArray) : (⟨(u.data.toList ++ v.data.toList).toArray⟩ : ByteArray) = u ++ v := by
  apply ByteArray.ext
  rw [ByteArray.data_append]
  simp
theorem sliceA (g n a : Nat) (h : a ≤ n) (w : World) : Sem.run Tryd.prog (Instr.slice 96 (.slice (some ⟨g, 0, none⟩) n n) none (some (.int .i64 (a : Int))) (some (.int .i64 (a : Int)))) w = .ok (.slice (some ⟨g, 0, none⟩) a a) w := by
  simp [Instr.slice, Instr.sliceBounds, Instr.sliceBound, asIntOf, go_sem, h]
theorem sliceB (g a b : Nat) (h : 1 ≤ b) (w : World) : Sem.run Tryd.prog (Instr.slice 96 (.slice (some ⟨g, 0, none⟩) (a + b) (a + b)) (some (.int .i64 (a : Int))) (some (.int .i64 ((a : Int) + (b : Int)))) (some (.int .i64 ((a : Int) + (b : Int))))) w = .ok (.slice (some ⟨g, a, none⟩) b b) w := by
  obtain ⟨m, hm⟩ : ∃ m, a + b = m := ⟨_, rfl⟩
  rw [show ((a : Int) + (b : Int)) = (m : Int) by omega, hm]
  have h3 : a ≤ m := by omega
  have h4 : m ≠ a := by omega
  have h5 : m - a = b := by omega
  simp [Instr.slice, Instr.sliceBounds, Instr.sliceBound, asIntOf, go_sem, h3, h4, h5]
theorem setCells_sz (b : Nat) : ∀ (vs : List Value) (o : Nat) (w : World), (w.setCells b o vs).heap.size = w.heap.size
  | [], _, _ => rfl
  | v :: r, o, w => by rw [World.setCells, setCells_sz b r]; simp [World.setCell]
theorem RowB.put {w : World} {g n o : Nat} {vs : List Value} (h : RowB w g n) (ho : o + vs.length ≤ n) : RowB (w.setCells g o vs) g n := by
  refine ⟨by rw [setCells_sz]; exact h.1, fun j hj => ⟨?_, by rw [World.frozen?_setCells]; exact (h.2 j hj).2⟩⟩
  by_cases hin : o ≤ j ∧ j < o + vs.length
  · have := World.cell?_setCells_in g vs o w (fun i hi => (h.2 (o + i) (by omega)).1) (j - o) (by omega)
    rw [show o + (j - o) = j by omega] at this
    rw [this]; rfl
  · rw [World.cell?_setCells_out g vs o w _ (fun _ _ => by show j < o ∨ o + vs.length ≤ j; omega)]
    exact (h.2 j hj).1
theorem RowB.at_ {w : World} {g n o : Nat} {vs : List Value} (h : RowB w g n) (ho : o + vs.length ≤ n) (j : Nat) (hj : j < vs.length) : (w.setCells g o vs).cell? ⟨g, o + j, none⟩ = some vs[j] :=
  World.cell?_setCells_in g vs o w (fun i hi => (h.2 (o + i) (by omega)).1) j hj
theorem Box.setCs {w : World} {g b o : Nat} {xs vs : List Value} (h : Box w g xs) (hne : g ≠ b) : Box (w.setCells b o vs) g xs := by
  refine ⟨by rw [setCells_sz]; exact h.1, fun i v hv => ?_⟩
  rw [World.frozen?_setCells, World.cell?_setCells_out b vs o w _ (fun e _ => absurd e hne)]
  exact h.2 i v hv
theorem byV_at (u : ByteArray) (j : Nat) (hj : j < (byV u).length) (h2 : j < u.data.toList.length) : (byV u)[j] = Value.int .u8 (u.data.toList[j].toNat : Int) := by simp [byV]
set_option maxHeartbeats 4000000 in
theorem product_any (u v : ByteArray) (hu : u.size ≤ 10000) (hv : v.size ≤ 10000) (h1 : 1 ≤ v.size) (w : World) :
    Calls Tryd.prog 76 #[.agg #[.string u, .string v]] w fun e w' => e = .returned (.string (u ++ v)) ∧ Below w.heap.size w w' := by
  obtain ⟨cur, hcs, hmk⟩ := makeB u.size v.size (by omega)
  have HCS := Lib.hid hcs
  clear hcs
  go_enter Tryd.func76, Tryd.ntmps76
  go_wp2_with fail
  go_quiet (fail)
  go_upto_region 3 with fail
  have BA : Box (((w.alloc (.cells #[.string u, .string v] 74)).drewN nq).alloc (.cells cur 5)) w.heap.size [.string u, .string v] := (Box.drewN (Box.new _ _ _) _).alloc _
  have RB : RowB (((w.alloc (.cells #[.string u, .string v] 74)).drewN nq).alloc (.cells cur 5)) (w.heap.size + 1) (u.size + v.size) := RowB.made (by simp) HCS.out
  have T : Below w.heap.size w (((w.alloc (.cells #[.string u, .string v] 74)).drewN nq).alloc (.cells cur 5)) := by repeat (first | with_reducible exact own_refl _ | with_reducible assumption | with_reducible apply own_alloc | with_reducible apply own_drewN | with_reducible apply own_drew | ((with_reducible refine own_setCell ?_ ?_ _); rotate_left; focus (first | (simp; done) | (simp; omega))) | (with_reducible (refine own_trans ?_ (by assumption))))
  generalize (((w.alloc (.cells #[.string u, .string v] 74)).drewN nq).alloc (.cells cur 5)) = W at *
  have hsA := sliceA (w.heap.size + 1) (u.size + v.size) u.size (by omega)
  have R1 : ∀ j, j < u.size → (W.drew.cell? ⟨w.heap.size + 1, 0 + j, none⟩).isSome = true := fun j hj => by rw [Nat.zero_add]; exact (RB.2 j (by omega)).1
  have R2 : ∀ j, j < u.size → W.drew.frozen? ⟨w.heap.size + 1, 0 + j, none⟩ = false := fun j hj => by rw [Nat.zero_add]; exact (RB.2 j (by omega)).2
  have HR1 := Lib.hid R1
  have HR2 := Lib.hid R2
  clear R1 R2
  obtain ⟨_, b0, b1, _, _⟩ := BA.two
  go_cut [] (fun wx => wx = W.drew.setCells (w.heap.size + 1) 0 (byV u))
  case first =>
    go_region_law? (refine step_copy_string rfl (.tmp 21) (.tmp 23) 96 9 rfl 5 Tryd.underlying96 Tryd.sizeOf5 (w.heap.size + 1) 0 u.size u.size (by simp [Act.eval]) u (by simp [Act.eval]) (Nat.le_refl _) HR1.out HR2.out ?_)
    all_goals
      go_wp2_with fail
      go_meet
      rfl
  case rest =>
    have B2 : Box wc w.heap.size [.string u, .string v] := by rw [hcut]; exact Box.setCs BA.drew (by omega)
    have Z2 : RowB wc (w.heap.size + 1) (u.size + v.size) := by
      rw [hcut]; exact RowB.put (w := W.drew) RB (by rw [byV_len]; omega)
    have V2 : Hid (∀ j (hj : j < u.data.toList.length), wc.cell? ⟨w.heap.size + 1, j, none⟩ = some (.int .u8 (u.data.toList[j].toNat : Int))) := Lib.hid (fun j hj => by
      have hj' : j < (byV u).length := by rw [byV_len]; rwa [str_len] at hj
      have := RowB.at_ (w := W.drew) (vs := byV u) (o := 0) RB (by rw [byV_len]; omega) j hj'
      rw [Nat.zero_add] at this
      rw [hcut, this, byV_at u j hj' hj])
    have T2 : Below w.heap.size w wc := by rw [hcut]; exact below_setCells (by omega) _ _ _ (own_drew T)
    clear hcut b0 b1 BA RB T HR1 HR2 hsA hmk
    generalize wc = V at *
    obtain ⟨_, b0, b1, _, _⟩ := B2.two
    have hsB := sliceB (w.heap.size + 1) u.size v.size h1
    have HR1 : Hid (∀ j, j < v.size → (V.drew.cell? ⟨w.heap.size + 1, u.size + j, none⟩).isSome = true) := Lib.hid fun j hj => (Z2.2 (u.size + j) (by omega)).1
    have HR2 : Hid (∀ j, j < v.size → V.drew.frozen? ⟨w.heap.size + 1, u.size + j, none⟩ = false) := Lib.hid fun j hj => (Z2.2 (u.size + j) (by omega)).2
    go_upto_region 4 with fail
    go_cut [] (fun wx => wx = V.drew.setCells (w.heap.size + 1) u.size (byV v))
    case first =>
      go_region_law (refine step_copy_string rfl (.tmp 29) (.tmp 31) 96 9 rfl 5 Tryd.underlying96 Tryd.sizeOf5 (w.heap.size + 1) u.size v.size v.size (by simp [Act.eval]) v (by simp [Act.eval]) (Nat.le_refl _) HR1.out HR2.out ?_)
      all_goals
        go_wp2_with fail
        go_meet
        rfl
    case rest =>
      have hcv : (convert 96 9 (.slice (some ⟨w.heap.size + 1, 0, none⟩) (u.size + v.size) (u.size + v.size))).run Tryd.prog wc = .ok (.string (u ++ v)) wc := by
        have hl : (u.data.toList ++ v.data.toList).length = u.size + v.size := by rw [List.length_append, str_len, str_len]
        have := run_convert_bytes_back (P := Tryd.prog) wc 96 9 5 ⟨w.heap.size + 1, 0, none⟩ (u.size + v.size) (u.data.toList ++ v.data.toList) Tryd.underlying96 Tryd.underlying5 Tryd.underlying9 (fun j hj => by
          rw [show (⟨w.heap.size + 1, 0, none⟩ : Addr).add j = ⟨w.heap.size + 1, j, none⟩ by unfold Addr.add; split <;> simp_all]
          by_cases hju : j < u.data.toList.length
          · rw [List.getElem_append_left hju, hcut, World.cell?_setCells_out _ _ _ _ _ (fun _ _ => by show j < u.size ∨ _; left; rwa [str_len] at hju)]
            exact V2.out j hju
          · have hju' : u.size ≤ j := by rw [str_len] at hju; omega
            have hjv : j - u.size < v.data.toList.length := by rw [str_len]; omega
            have hjv' : j - u.size < (byV v).length := by rw [byV_len]; rwa [str_len] at hjv
            have := RowB.at_ (w := V.drew) (vs := byV v) (o := u.size) Z2 (by rw [byV_len]; omega) (j - u.size) hjv'
            rw [show u.size + (j - u.size) = j by omega] at this
            rw [hcut, this, byV_at v _ hjv' hjv, List.getElem_append_right (by omega)]
            simp only [str_len])
        rw [hl, app_bytes] at this
        exact this
      have T3 : Below w.heap.size w wc := by rw [hcut]; exact below_setCells (by omega) _ _ _ (own_drew T2)
      clear hcut b0 b1 B2 Z2 V2 HR1 HR2
      go_wp2
      go_ret
      exact ⟨rfl, T3⟩
end Go.Proofs.YtkeadknbdihkmaaDoor
