/- The library's contracts of sorting and of taking equal neighbours together, laid at this program. -/
import Derived.Shelf.SortG.Plain
import Derived.Test.YtkeadknbdihkmaaDoorProg
namespace Go.Proofs.YtkeadknbdihkmaaDoor
open Go.Shelf
def laysSlN53_f78_ren : Go.Shelf.Ren := ⟨fun | 53 => 78 | 64 => 85 | 63 => 84 | 78 => 96 | 79 => 97 | 70 => 87 | 71 => 88 | 72 => 89 | 73 => 90 | 74 => 91 | 75 => 92 | 59 => 93 | 76 => 94 | 77 => 95 | 88 => 99 | 89 => 100 | 90 => 101 | 91 => 102 | 92 => 103 | 68 => 104 | 96 => 105 | n => n, fun | 22 => 32 | 23 => 2 | 3 => 3 | 51 => 99 | 0 => 0 | 67 => 110 | 69 => 112 | 4 => 4 | 61 => 103 | 60 => 102 | 44 => 107 | 5 => 5 | 9 => 9 | 75 => 114 | 79 => 118 | 83 => 120 | 84 => 121 | n => n, fun | n => n⟩
theorem laysSlN53_f78 : Go.Proofs.SlLaysN.n53 Tryd.prog laysSlN53_f78_ren := {
  mixed := by kernel_rfl
  f53 := ⟨Tryd.f78.name, by decide, Tryd.func78.trans (congrArg some (by kernel_rfl))⟩
  f59 := ⟨Tryd.f93.name, by decide, Tryd.func93.trans (congrArg some (by kernel_rfl))⟩
  f63 := ⟨Tryd.f84.name, by decide, Tryd.func84.trans (congrArg some (by kernel_rfl))⟩
  f64 := Tryd.func85.trans (congrArg some (by kernel_rfl))
  f68 := ⟨Tryd.f104.name, by decide, Tryd.func104.trans (congrArg some (by kernel_rfl))⟩
  f70 := ⟨Tryd.f87.name, by decide, Tryd.func87.trans (congrArg some (by kernel_rfl))⟩
  f71 := ⟨Tryd.f88.name, by decide, Tryd.func88.trans (congrArg some (by kernel_rfl))⟩
  f72 := ⟨Tryd.f89.name, by decide, Tryd.func89.trans (congrArg some (by kernel_rfl))⟩
  f73 := ⟨Tryd.f90.name, by decide, Tryd.func90.trans (congrArg some (by kernel_rfl))⟩
  f74 := ⟨Tryd.f91.name, by decide, Tryd.func91.trans (congrArg some (by kernel_rfl))⟩
  f75 := ⟨Tryd.f92.name, by decide, Tryd.func92.trans (congrArg some (by kernel_rfl))⟩
  f76 := ⟨Tryd.f94.name, by decide, Tryd.func94.trans (congrArg some (by kernel_rfl))⟩
  f77 := ⟨Tryd.f95.name, by decide, Tryd.func95.trans (congrArg some (by kernel_rfl))⟩
  f78 := Tryd.func96.trans (congrArg some (by kernel_rfl))
  f79 := Tryd.func97.trans (congrArg some (by kernel_rfl))
  f88 := ⟨Tryd.f99.name, by decide, Tryd.func99.trans (congrArg some (by kernel_rfl))⟩
  f89 := Tryd.func100.trans (congrArg some (by kernel_rfl))
  f90 := Tryd.func101.trans (congrArg some (by kernel_rfl))
  f91 := ⟨Tryd.f102.name, by decide, Tryd.func102.trans (congrArg some (by kernel_rfl))⟩
  f92 := ⟨Tryd.f103.name, by decide, Tryd.func103.trans (congrArg some (by kernel_rfl))⟩
  f96 := ⟨Tryd.f105.name, by decide, Tryd.func105.trans (congrArg some (by kernel_rfl))⟩
  t0 := Tryd.underlying0
  a0 := Tryd.isAgg0
  z0 := Tryd.sizeOf0
  v0 := Tryd.zeroValue0
  t3 := Tryd.underlying3
  a3 := Tryd.isAgg3
  z3 := Tryd.sizeOf3
  v3 := Tryd.zeroValue3
  t4 := Tryd.underlying4
  a4 := Tryd.isAgg4
  z4 := Tryd.sizeOf4
  v4 := Tryd.zeroValue4
  t5 := Tryd.underlying5
  a5 := Tryd.isAgg5
  z5 := Tryd.sizeOf5
  v5 := Tryd.zeroValue5
  t9 := Tryd.underlying9
  a9 := Tryd.isAgg9
  z9 := Tryd.sizeOf9
  v9 := Tryd.zeroValue9
  t22 := Tryd.underlying32
  a22 := Tryd.isAgg32
  z22 := Tryd.sizeOf32
  v22 := Tryd.zeroValue32
  t23 := Tryd.underlying2
  a23 := Tryd.isAgg2
  z23 := Tryd.sizeOf2
  v23 := Tryd.zeroValue2
  t44 := Tryd.underlying107
  a44 := Tryd.isAgg107
  z44 := Tryd.sizeOf107
  v44 := Tryd.zeroValue107
  t51 := Tryd.underlying99
  a51 := Tryd.isAgg99
  z51 := Tryd.sizeOf99
  v51 := Tryd.zeroValue99
  t60 := Tryd.underlying102
  a60 := Tryd.isAgg102
  z60 := Tryd.sizeOf102
  v60 := Tryd.zeroValue102
  t61 := Tryd.underlying103
  a61 := Tryd.isAgg103
  z61 := Tryd.sizeOf103
  v61 := Tryd.zeroValue103
  t67 := Tryd.underlying110
  a67 := Tryd.isAgg110
  z67 := Tryd.sizeOf110
  v67 := Tryd.zeroValue110
  t69 := Tryd.underlying112
  a69 := Tryd.isAgg112
  z69 := Tryd.sizeOf112
  v69 := Tryd.zeroValue112
  t75 := Tryd.underlying114
  a75 := Tryd.isAgg114
  z75 := Tryd.sizeOf114
  v75 := Tryd.zeroValue114
  t79 := Tryd.underlying118
  a79 := Tryd.isAgg118
  z79 := Tryd.sizeOf118
  v79 := Tryd.zeroValue118
  t83 := Tryd.underlying120
  a83 := Tryd.isAgg120
  z83 := Tryd.sizeOf120
  v83 := Tryd.zeroValue120
  t84 := Tryd.underlying121
  a84 := Tryd.isAgg121
  z84 := Tryd.sizeOf121
  v84 := Tryd.zeroValue121 }
open Go.RowKit Go.Lib Go.Sort in
theorem slices_Sort_int (blk off cap : Nat) (zs : List Int) (w : World) (hH : Holds (Value.int .i64) w blk off zs.toArray) (hblk : blk < w.heap.size) (hsz : zs.length < 4611686018427387904) :
    Calls Tryd.prog 78 #[.slice (some ⟨blk, off, none⟩) zs.length cap] w fun e w' =>
      e = .returned (.tuple #[]) ∧ ∃ n os, w' = grow (putRow (Value.int .i64) (Sort.ahead w n) blk off (zs.mergeSort fun x y => decide (x ≤ y)).toArray) os := AnyG.slices_Sort_int laysSlN53_f78 blk off cap zs w hH hblk hsz
end Go.Proofs.YtkeadknbdihkmaaDoor
