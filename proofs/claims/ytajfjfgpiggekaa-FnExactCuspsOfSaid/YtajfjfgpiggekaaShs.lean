/- The library's contracts of sorting and of taking equal neighbours together, laid at this program. -/
import Derived.Shelf.SortG.Plain
import Derived.Test.YtajfjfgpiggekaaProg
namespace Go.Proofs.Ytajfjfgpiggekaa
open Go.Shelf
def laysSlN53_f75_ren : Go.Shelf.Ren := ⟨fun | 53 => 75 | 64 => 85 | 63 => 84 | 78 => 98 | 79 => 99 | 70 => 89 | 71 => 90 | 72 => 91 | 73 => 92 | 74 => 93 | 75 => 94 | 59 => 95 | 76 => 96 | 77 => 97 | 88 => 100 | 89 => 101 | 90 => 102 | 91 => 103 | 92 => 104 | 68 => 105 | 96 => 106 | n => n, fun | 22 => 37 | 23 => 2 | 3 => 3 | 51 => 96 | 0 => 0 | 67 => 107 | 69 => 109 | 4 => 4 | 61 => 100 | 60 => 99 | 44 => 104 | 5 => 5 | 9 => 9 | 75 => 110 | 79 => 114 | 83 => 116 | 84 => 117 | n => n, fun | n => n⟩
theorem laysSlN53_f75 : Go.Proofs.SlLaysN.n53 Try.prog laysSlN53_f75_ren := {
  mixed := by kernel_rfl
  f53 := ⟨Try.f75.name, by decide, Try.func75.trans (congrArg some (by kernel_rfl))⟩
  f59 := ⟨Try.f95.name, by decide, Try.func95.trans (congrArg some (by kernel_rfl))⟩
  f63 := ⟨Try.f84.name, by decide, Try.func84.trans (congrArg some (by kernel_rfl))⟩
  f64 := Try.func85.trans (congrArg some (by kernel_rfl))
  f68 := ⟨Try.f105.name, by decide, Try.func105.trans (congrArg some (by kernel_rfl))⟩
  f70 := ⟨Try.f89.name, by decide, Try.func89.trans (congrArg some (by kernel_rfl))⟩
  f71 := ⟨Try.f90.name, by decide, Try.func90.trans (congrArg some (by kernel_rfl))⟩
  f72 := ⟨Try.f91.name, by decide, Try.func91.trans (congrArg some (by kernel_rfl))⟩
  f73 := ⟨Try.f92.name, by decide, Try.func92.trans (congrArg some (by kernel_rfl))⟩
  f74 := ⟨Try.f93.name, by decide, Try.func93.trans (congrArg some (by kernel_rfl))⟩
  f75 := ⟨Try.f94.name, by decide, Try.func94.trans (congrArg some (by kernel_rfl))⟩
  f76 := ⟨Try.f96.name, by decide, Try.func96.trans (congrArg some (by kernel_rfl))⟩
  f77 := ⟨Try.f97.name, by decide, Try.func97.trans (congrArg some (by kernel_rfl))⟩
  f78 := Try.func98.trans (congrArg some (by kernel_rfl))
  f79 := Try.func99.trans (congrArg some (by kernel_rfl))
  f88 := ⟨Try.f100.name, by decide, Try.func100.trans (congrArg some (by kernel_rfl))⟩
  f89 := Try.func101.trans (congrArg some (by kernel_rfl))
  f90 := Try.func102.trans (congrArg some (by kernel_rfl))
  f91 := ⟨Try.f103.name, by decide, Try.func103.trans (congrArg some (by kernel_rfl))⟩
  f92 := ⟨Try.f104.name, by decide, Try.func104.trans (congrArg some (by kernel_rfl))⟩
  f96 := ⟨Try.f106.name, by decide, Try.func106.trans (congrArg some (by kernel_rfl))⟩
  t0 := Try.underlying0
  a0 := Try.isAgg0
  z0 := Try.sizeOf0
  v0 := Try.zeroValue0
  t3 := Try.underlying3
  a3 := Try.isAgg3
  z3 := Try.sizeOf3
  v3 := Try.zeroValue3
  t4 := Try.underlying4
  a4 := Try.isAgg4
  z4 := Try.sizeOf4
  v4 := Try.zeroValue4
  t5 := Try.underlying5
  a5 := Try.isAgg5
  z5 := Try.sizeOf5
  v5 := Try.zeroValue5
  t9 := Try.underlying9
  a9 := Try.isAgg9
  z9 := Try.sizeOf9
  v9 := Try.zeroValue9
  t22 := Try.underlying37
  a22 := Try.isAgg37
  z22 := Try.sizeOf37
  v22 := Try.zeroValue37
  t23 := Try.underlying2
  a23 := Try.isAgg2
  z23 := Try.sizeOf2
  v23 := Try.zeroValue2
  t44 := Try.underlying104
  a44 := Try.isAgg104
  z44 := Try.sizeOf104
  v44 := Try.zeroValue104
  t51 := Try.underlying96
  a51 := Try.isAgg96
  z51 := Try.sizeOf96
  v51 := Try.zeroValue96
  t60 := Try.underlying99
  a60 := Try.isAgg99
  z60 := Try.sizeOf99
  v60 := Try.zeroValue99
  t61 := Try.underlying100
  a61 := Try.isAgg100
  z61 := Try.sizeOf100
  v61 := Try.zeroValue100
  t67 := Try.underlying107
  a67 := Try.isAgg107
  z67 := Try.sizeOf107
  v67 := Try.zeroValue107
  t69 := Try.underlying109
  a69 := Try.isAgg109
  z69 := Try.sizeOf109
  v69 := Try.zeroValue109
  t75 := Try.underlying110
  a75 := Try.isAgg110
  z75 := Try.sizeOf110
  v75 := Try.zeroValue110
  t79 := Try.underlying114
  a79 := Try.isAgg114
  z79 := Try.sizeOf114
  v79 := Try.zeroValue114
  t83 := Try.underlying116
  a83 := Try.isAgg116
  z83 := Try.sizeOf116
  v83 := Try.zeroValue116
  t84 := Try.underlying117
  a84 := Try.isAgg117
  z84 := Try.sizeOf117
  v84 := Try.zeroValue117 }
open Go.RowKit Go.Lib Go.Sort in
theorem slices_Sort_int (blk off cap : Nat) (zs : List Int) (w : World) (hH : Holds (Value.int .i64) w blk off zs.toArray) (hblk : blk < w.heap.size) (hsz : zs.length < 4611686018427387904) :
    Calls Try.prog 75 #[.slice (some ⟨blk, off, none⟩) zs.length cap] w fun e w' =>
      e = .returned (.tuple #[]) ∧ ∃ n os, w' = grow (putRow (Value.int .i64) (Sort.ahead w n) blk off (zs.mergeSort fun x y => decide (x ≤ y)).toArray) os := AnyG.slices_Sort_int laysSlN53_f75 blk off cap zs w hH hblk hsz
end Go.Proofs.Ytajfjfgpiggekaa
