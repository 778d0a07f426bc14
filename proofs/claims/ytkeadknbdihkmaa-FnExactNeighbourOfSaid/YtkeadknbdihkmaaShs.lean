/- The library's contracts of sorting and of taking equal neighbours together, laid at this program. -/
import Derived.Shelf.SortG.Plain
import Derived.Test.YtkeadknbdihkmaaProg
namespace Go.Proofs.Ytkeadknbdihkmaa
open Go.Shelf
def laysSlN53_f40_ren : Go.Shelf.Ren := ⟨fun | 53 => 40 | 64 => 42 | 63 => 41 | 78 => 52 | 79 => 53 | 70 => 43 | 71 => 44 | 72 => 45 | 73 => 46 | 74 => 47 | 75 => 48 | 59 => 49 | 76 => 50 | 77 => 51 | 88 => 54 | 89 => 55 | 90 => 56 | 91 => 57 | 92 => 58 | 68 => 59 | 96 => 60 | n => n, fun | 22 => 49 | 23 => 2 | 3 => 3 | 51 => 67 | 0 => 0 | 67 => 77 | 69 => 79 | 4 => 4 | 61 => 70 | 60 => 69 | 44 => 74 | 5 => 5 | 9 => 9 | 75 => 80 | 79 => 84 | 83 => 86 | 84 => 87 | n => n, fun | n => n⟩
theorem laysSlN53_f40 : Go.Proofs.SlLaysN.n53 Try.prog laysSlN53_f40_ren := {
  mixed := by kernel_rfl
  f53 := ⟨Try.f40.name, by decide, Try.func40.trans (congrArg some (by kernel_rfl))⟩
  f59 := ⟨Try.f49.name, by decide, Try.func49.trans (congrArg some (by kernel_rfl))⟩
  f63 := ⟨Try.f41.name, by decide, Try.func41.trans (congrArg some (by kernel_rfl))⟩
  f64 := Try.func42.trans (congrArg some (by kernel_rfl))
  f68 := ⟨Try.f59.name, by decide, Try.func59.trans (congrArg some (by kernel_rfl))⟩
  f70 := ⟨Try.f43.name, by decide, Try.func43.trans (congrArg some (by kernel_rfl))⟩
  f71 := ⟨Try.f44.name, by decide, Try.func44.trans (congrArg some (by kernel_rfl))⟩
  f72 := ⟨Try.f45.name, by decide, Try.func45.trans (congrArg some (by kernel_rfl))⟩
  f73 := ⟨Try.f46.name, by decide, Try.func46.trans (congrArg some (by kernel_rfl))⟩
  f74 := ⟨Try.f47.name, by decide, Try.func47.trans (congrArg some (by kernel_rfl))⟩
  f75 := ⟨Try.f48.name, by decide, Try.func48.trans (congrArg some (by kernel_rfl))⟩
  f76 := ⟨Try.f50.name, by decide, Try.func50.trans (congrArg some (by kernel_rfl))⟩
  f77 := ⟨Try.f51.name, by decide, Try.func51.trans (congrArg some (by kernel_rfl))⟩
  f78 := Try.func52.trans (congrArg some (by kernel_rfl))
  f79 := Try.func53.trans (congrArg some (by kernel_rfl))
  f88 := ⟨Try.f54.name, by decide, Try.func54.trans (congrArg some (by kernel_rfl))⟩
  f89 := Try.func55.trans (congrArg some (by kernel_rfl))
  f90 := Try.func56.trans (congrArg some (by kernel_rfl))
  f91 := ⟨Try.f57.name, by decide, Try.func57.trans (congrArg some (by kernel_rfl))⟩
  f92 := ⟨Try.f58.name, by decide, Try.func58.trans (congrArg some (by kernel_rfl))⟩
  f96 := ⟨Try.f60.name, by decide, Try.func60.trans (congrArg some (by kernel_rfl))⟩
  t0 := Try.underlying0
  a0 := Try.isAgg0
  z0 := Try.sizeOf0
  v0 := Try.zeroValue0
  t3 := Try.underlying3
  a3 := Try.isAgg3
  z3 := Try.sizeOf3
  v3 := Try.zeroValue3
  t4 := Try.underlying4
  a4 := Try.isAgg4
  z4 := Try.sizeOf4
  v4 := Try.zeroValue4
  t5 := Try.underlying5
  a5 := Try.isAgg5
  z5 := Try.sizeOf5
  v5 := Try.zeroValue5
  t9 := Try.underlying9
  a9 := Try.isAgg9
  z9 := Try.sizeOf9
  v9 := Try.zeroValue9
  t22 := Try.underlying49
  a22 := Try.isAgg49
  z22 := Try.sizeOf49
  v22 := Try.zeroValue49
  t23 := Try.underlying2
  a23 := Try.isAgg2
  z23 := Try.sizeOf2
  v23 := Try.zeroValue2
  t44 := Try.underlying74
  a44 := Try.isAgg74
  z44 := Try.sizeOf74
  v44 := Try.zeroValue74
  t51 := Try.underlying67
  a51 := Try.isAgg67
  z51 := Try.sizeOf67
  v51 := Try.zeroValue67
  t60 := Try.underlying69
  a60 := Try.isAgg69
  z60 := Try.sizeOf69
  v60 := Try.zeroValue69
  t61 := Try.underlying70
  a61 := Try.isAgg70
  z61 := Try.sizeOf70
  v61 := Try.zeroValue70
  t67 := Try.underlying77
  a67 := Try.isAgg77
  z67 := Try.sizeOf77
  v67 := Try.zeroValue77
  t69 := Try.underlying79
  a69 := Try.isAgg79
  z69 := Try.sizeOf79
  v69 := Try.zeroValue79
  t75 := Try.underlying80
  a75 := Try.isAgg80
  z75 := Try.sizeOf80
  v75 := Try.zeroValue80
  t79 := Try.underlying84
  a79 := Try.isAgg84
  z79 := Try.sizeOf84
  v79 := Try.zeroValue84
  t83 := Try.underlying86
  a83 := Try.isAgg86
  z83 := Try.sizeOf86
  v83 := Try.zeroValue86
  t84 := Try.underlying87
  a84 := Try.isAgg87
  z84 := Try.sizeOf87
  v84 := Try.zeroValue87 }
open Go.RowKit Go.Lib Go.Sort in
theorem slices_Sort_int (blk off cap : Nat) (zs : List Int) (w : World) (hH : Holds (Value.int .i64) w blk off zs.toArray) (hblk : blk < w.heap.size) (hsz : zs.length < 4611686018427387904) :
    Calls Try.prog 40 #[.slice (some ⟨blk, off, none⟩) zs.length cap] w fun e w' =>
      e = .returned (.tuple #[]) ∧ ∃ n os, w' = grow (putRow (Value.int .i64) (Sort.ahead w n) blk off (zs.mergeSort fun x y => decide (x ≤ y)).toArray) os := AnyG.slices_Sort_int laysSlN53_f40 blk off cap zs w hH hblk hsz
end Go.Proofs.Ytkeadknbdihkmaa
