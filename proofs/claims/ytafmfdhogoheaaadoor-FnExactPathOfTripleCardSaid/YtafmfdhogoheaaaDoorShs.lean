/- The library's contracts of sorting and of taking equal neighbours together, laid at this program. -/
import Derived.Shelf.SortG.Plain
import Derived.Test.YtafmfdhogoheaaaDoorProg
namespace Go.Proofs.YtafmfdhogoheaaaDoor
open Go.Shelf
def laysSlN53_f109_ren : Go.Shelf.Ren := ⟨fun | 53 => 109 | 64 => 121 | 63 => 120 | 78 => 135 | 79 => 136 | 70 => 126 | 71 => 127 | 72 => 128 | 73 => 129 | 74 => 130 | 75 => 131 | 59 => 132 | 76 => 133 | 77 => 134 | 88 => 138 | 89 => 139 | 90 => 140 | 91 => 141 | 92 => 142 | 68 => 105 | 96 => 143 | n => n, fun | 22 => 28 | 23 => 2 | 3 => 3 | 51 => 126 | 0 => 0 | 67 => 143 | 69 => 120 | 4 => 4 | 61 => 137 | 60 => 136 | 44 => 114 | 5 => 5 | 9 => 9 | 75 => 145 | 79 => 149 | 83 => 151 | 84 => 152 | n => n, fun | n => n⟩
theorem laysSlN53_f109 : Go.Proofs.SlLaysN.n53 Tryd.prog laysSlN53_f109_ren := {
  mixed := by kernel_rfl
  f53 := ⟨Tryd.f109.name, by decide, Tryd.func109.trans (congrArg some (by kernel_rfl))⟩
  f59 := ⟨Tryd.f132.name, by decide, Tryd.func132.trans (congrArg some (by kernel_rfl))⟩
  f63 := ⟨Tryd.f120.name, by decide, Tryd.func120.trans (congrArg some (by kernel_rfl))⟩
  f64 := Tryd.func121.trans (congrArg some (by kernel_rfl))
  f68 := ⟨Tryd.f105.name, by decide, Tryd.func105.trans (congrArg some (by kernel_rfl))⟩
  f70 := ⟨Tryd.f126.name, by decide, Tryd.func126.trans (congrArg some (by kernel_rfl))⟩
  f71 := ⟨Tryd.f127.name, by decide, Tryd.func127.trans (congrArg some (by kernel_rfl))⟩
  f72 := ⟨Tryd.f128.name, by decide, Tryd.func128.trans (congrArg some (by kernel_rfl))⟩
  f73 := ⟨Tryd.f129.name, by decide, Tryd.func129.trans (congrArg some (by kernel_rfl))⟩
  f74 := ⟨Tryd.f130.name, by decide, Tryd.func130.trans (congrArg some (by kernel_rfl))⟩
  f75 := ⟨Tryd.f131.name, by decide, Tryd.func131.trans (congrArg some (by kernel_rfl))⟩
  f76 := ⟨Tryd.f133.name, by decide, Tryd.func133.trans (congrArg some (by kernel_rfl))⟩
  f77 := ⟨Tryd.f134.name, by decide, Tryd.func134.trans (congrArg some (by kernel_rfl))⟩
  f78 := Tryd.func135.trans (congrArg some (by kernel_rfl))
  f79 := Tryd.func136.trans (congrArg some (by kernel_rfl))
  f88 := ⟨Tryd.f138.name, by decide, Tryd.func138.trans (congrArg some (by kernel_rfl))⟩
  f89 := Tryd.func139.trans (congrArg some (by kernel_rfl))
  f90 := Tryd.func140.trans (congrArg some (by kernel_rfl))
  f91 := ⟨Tryd.f141.name, by decide, Tryd.func141.trans (congrArg some (by kernel_rfl))⟩
  f92 := ⟨Tryd.f142.name, by decide, Tryd.func142.trans (congrArg some (by kernel_rfl))⟩
  f96 := ⟨Tryd.f143.name, by decide, Tryd.func143.trans (congrArg some (by kernel_rfl))⟩
  t0 := Tryd.underlying0
  a0 := Tryd.isAgg0
  z0 := Tryd.sizeOf0
  v0 := Tryd.zeroValue0
  t3 := Tryd.underlying3
  a3 := Tryd.isAgg3
  z3 := Tryd.sizeOf3
  v3 := Tryd.zeroValue3
  t4 := Tryd.underlying4
  a4 := Tryd.isAgg4
  z4 := Tryd.sizeOf4
  v4 := Tryd.zeroValue4
  t5 := Tryd.underlying5
  a5 := Tryd.isAgg5
  z5 := Tryd.sizeOf5
  v5 := Tryd.zeroValue5
  t9 := Tryd.underlying9
  a9 := Tryd.isAgg9
  z9 := Tryd.sizeOf9
  v9 := Tryd.zeroValue9
  t22 := Tryd.underlying28
  a22 := Tryd.isAgg28
  z22 := Tryd.sizeOf28
  v22 := Tryd.zeroValue28
  t23 := Tryd.underlying2
  a23 := Tryd.isAgg2
  z23 := Tryd.sizeOf2
  v23 := Tryd.zeroValue2
  t44 := Tryd.underlying114
  a44 := Tryd.isAgg114
  z44 := Tryd.sizeOf114
  v44 := Tryd.zeroValue114
  t51 := Tryd.underlying126
  a51 := Tryd.isAgg126
  z51 := Tryd.sizeOf126
  v51 := Tryd.zeroValue126
  t60 := Tryd.underlying136
  a60 := Tryd.isAgg136
  z60 := Tryd.sizeOf136
  v60 := Tryd.zeroValue136
  t61 := Tryd.underlying137
  a61 := Tryd.isAgg137
  z61 := Tryd.sizeOf137
  v61 := Tryd.zeroValue137
  t67 := Tryd.underlying143
  a67 := Tryd.isAgg143
  z67 := Tryd.sizeOf143
  v67 := Tryd.zeroValue143
  t69 := Tryd.underlying120
  a69 := Tryd.isAgg120
  z69 := Tryd.sizeOf120
  v69 := Tryd.zeroValue120
  t75 := Tryd.underlying145
  a75 := Tryd.isAgg145
  z75 := Tryd.sizeOf145
  v75 := Tryd.zeroValue145
  t79 := Tryd.underlying149
  a79 := Tryd.isAgg149
  z79 := Tryd.sizeOf149
  v79 := Tryd.zeroValue149
  t83 := Tryd.underlying151
  a83 := Tryd.isAgg151
  z83 := Tryd.sizeOf151
  v83 := Tryd.zeroValue151
  t84 := Tryd.underlying152
  a84 := Tryd.isAgg152
  z84 := Tryd.sizeOf152
  v84 := Tryd.zeroValue152 }
open Go.RowKit Go.Lib Go.Sort in
theorem slices_Sort_int (blk off cap : Nat) (zs : List Int) (w : World) (hH : Holds (Value.int .i64) w blk off zs.toArray) (hblk : blk < w.heap.size) (hsz : zs.length < 4611686018427387904) :
    Calls Tryd.prog 109 #[.slice (some ⟨blk, off, none⟩) zs.length cap] w fun e w' =>
      e = .returned (.tuple #[]) ∧ ∃ n os, w' = grow (putRow (Value.int .i64) (Sort.ahead w n) blk off (zs.mergeSort fun x y => decide (x ≤ y)).toArray) os := AnyG.slices_Sort_int laysSlN53_f109 blk off cap zs w hH hblk hsz
end Go.Proofs.YtafmfdhogoheaaaDoor
