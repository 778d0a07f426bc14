/- The library's contracts of sorting and of taking equal neighbours together, laid at this program. -/
import Derived.Shelf.SortG.Plain
import Derived.Test.YtdcomnnpnhinfaaDoorProg
namespace Go.Proofs.YtdcomnnpnhinfaaDoor
open Go.Shelf
def laysSlN53_f72_ren : Go.Shelf.Ren := ⟨fun | 53 => 72 | 64 => 94 | 63 => 93 | 78 => 113 | 79 => 114 | 70 => 104 | 71 => 105 | 72 => 106 | 73 => 107 | 74 => 108 | 75 => 109 | 59 => 110 | 76 => 111 | 77 => 112 | 88 => 118 | 89 => 119 | 90 => 120 | 91 => 121 | 92 => 122 | 68 => 83 | 96 => 125 | n => n, fun | 22 => 22 | 23 => 2 | 3 => 3 | 51 => 126 | 0 => 0 | 67 => 139 | 69 => 141 | 4 => 4 | 61 => 133 | 60 => 132 | 44 => 115 | 5 => 5 | 9 => 9 | 75 => 143 | 79 => 147 | 83 => 150 | 84 => 151 | n => n, fun | n => n⟩
theorem laysSlN53_f72 : Go.Proofs.SlLaysN.n53 Tryd.prog laysSlN53_f72_ren := {
  mixed := by kernel_rfl
  f53 := ⟨Tryd.f72.name, by decide, Tryd.func72.trans (congrArg some (by kernel_rfl))⟩
  f59 := ⟨Tryd.f110.name, by decide, Tryd.func110.trans (congrArg some (by kernel_rfl))⟩
  f63 := ⟨Tryd.f93.name, by decide, Tryd.func93.trans (congrArg some (by kernel_rfl))⟩
  f64 := Tryd.func94.trans (congrArg some (by kernel_rfl))
  f68 := ⟨Tryd.f83.name, by decide, Tryd.func83.trans (congrArg some (by kernel_rfl))⟩
  f70 := ⟨Tryd.f104.name, by decide, Tryd.func104.trans (congrArg some (by kernel_rfl))⟩
  f71 := ⟨Tryd.f105.name, by decide, Tryd.func105.trans (congrArg some (by kernel_rfl))⟩
  f72 := ⟨Tryd.f106.name, by decide, Tryd.func106.trans (congrArg some (by kernel_rfl))⟩
  f73 := ⟨Tryd.f107.name, by decide, Tryd.func107.trans (congrArg some (by kernel_rfl))⟩
  f74 := ⟨Tryd.f108.name, by decide, Tryd.func108.trans (congrArg some (by kernel_rfl))⟩
  f75 := ⟨Tryd.f109.name, by decide, Tryd.func109.trans (congrArg some (by kernel_rfl))⟩
  f76 := ⟨Tryd.f111.name, by decide, Tryd.func111.trans (congrArg some (by kernel_rfl))⟩
  f77 := ⟨Tryd.f112.name, by decide, Tryd.func112.trans (congrArg some (by kernel_rfl))⟩
  f78 := Tryd.func113.trans (congrArg some (by kernel_rfl))
  f79 := Tryd.func114.trans (congrArg some (by kernel_rfl))
  f88 := ⟨Tryd.f118.name, by decide, Tryd.func118.trans (congrArg some (by kernel_rfl))⟩
  f89 := Tryd.func119.trans (congrArg some (by kernel_rfl))
  f90 := Tryd.func120.trans (congrArg some (by kernel_rfl))
  f91 := ⟨Tryd.f121.name, by decide, Tryd.func121.trans (congrArg some (by kernel_rfl))⟩
  f92 := ⟨Tryd.f122.name, by decide, Tryd.func122.trans (congrArg some (by kernel_rfl))⟩
  f96 := ⟨Tryd.f125.name, by decide, Tryd.func125.trans (congrArg some (by kernel_rfl))⟩
  t0 := Tryd.underlying0
  a0 := Tryd.isAgg0
  z0 := Tryd.sizeOf0
  v0 := Tryd.zeroValue0
  t3 := Tryd.underlying3
  a3 := Tryd.isAgg3
  z3 := Tryd.sizeOf3
  v3 := Tryd.zeroValue3
  t4 := Tryd.underlying4
  a4 := Tryd.isAgg4
  z4 := Tryd.sizeOf4
  v4 := Tryd.zeroValue4
  t5 := Tryd.underlying5
  a5 := Tryd.isAgg5
  z5 := Tryd.sizeOf5
  v5 := Tryd.zeroValue5
  t9 := Tryd.underlying9
  a9 := Tryd.isAgg9
  z9 := Tryd.sizeOf9
  v9 := Tryd.zeroValue9
  t22 := Tryd.underlying22
  a22 := Tryd.isAgg22
  z22 := Tryd.sizeOf22
  v22 := Tryd.zeroValue22
  t23 := Tryd.underlying2
  a23 := Tryd.isAgg2
  z23 := Tryd.sizeOf2
  v23 := Tryd.zeroValue2
  t44 := Tryd.underlying115
  a44 := Tryd.isAgg115
  z44 := Tryd.sizeOf115
  v44 := Tryd.zeroValue115
  t51 := Tryd.underlying126
  a51 := Tryd.isAgg126
  z51 := Tryd.sizeOf126
  v51 := Tryd.zeroValue126
  t60 := Tryd.underlying132
  a60 := Tryd.isAgg132
  z60 := Tryd.sizeOf132
  v60 := Tryd.zeroValue132
  t61 := Tryd.underlying133
  a61 := Tryd.isAgg133
  z61 := Tryd.sizeOf133
  v61 := Tryd.zeroValue133
  t67 := Tryd.underlying139
  a67 := Tryd.isAgg139
  z67 := Tryd.sizeOf139
  v67 := Tryd.zeroValue139
  t69 := Tryd.underlying141
  a69 := Tryd.isAgg141
  z69 := Tryd.sizeOf141
  v69 := Tryd.zeroValue141
  t75 := Tryd.underlying143
  a75 := Tryd.isAgg143
  z75 := Tryd.sizeOf143
  v75 := Tryd.zeroValue143
  t79 := Tryd.underlying147
  a79 := Tryd.isAgg147
  z79 := Tryd.sizeOf147
  v79 := Tryd.zeroValue147
  t83 := Tryd.underlying150
  a83 := Tryd.isAgg150
  z83 := Tryd.sizeOf150
  v83 := Tryd.zeroValue150
  t84 := Tryd.underlying151
  a84 := Tryd.isAgg151
  z84 := Tryd.sizeOf151
  v84 := Tryd.zeroValue151 }
open Go.RowKit Go.Lib Go.Sort in
theorem slices_Sort_int (blk off cap : Nat) (zs : List Int) (w : World) (hH : Holds (Value.int .i64) w blk off zs.toArray) (hblk : blk < w.heap.size) (hsz : zs.length < 4611686018427387904) :
    Calls Tryd.prog 72 #[.slice (some ⟨blk, off, none⟩) zs.length cap] w fun e w' =>
      e = .returned (.tuple #[]) ∧ ∃ n os, w' = grow (putRow (Value.int .i64) (Sort.ahead w n) blk off (zs.mergeSort fun x y => decide (x ≤ y)).toArray) os := AnyG.slices_Sort_int laysSlN53_f72 blk off cap zs w hH hblk hsz
end Go.Proofs.YtdcomnnpnhinfaaDoor
