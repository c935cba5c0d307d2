/-
  The library's functions at this program: the numbers, and that their bodies are the library's.
-/
import Derived.Ground.SlmeProg
import Derived.Shelf.SlGeneric
import Derived.Shelf.SlMaps.Equal
import Derived.Test.YtlgcjdgcgnlcaaaGreatDoorProg
namespace Go.Proofs
open Go.Shelf
def Tryz.lEq_ren : Go.Shelf.Ren := ⟨fun | 7 => 59 | n => n, fun | 23 => 52 | 29 => 52 | 26 => 9 | 27 => 44 | 31 => 44 | 32 => 122 | 4 => 4 | 3 => 3 | 0 => 0 | 37 => 149 | n => n, fun | n => n⟩
theorem Tryz.lEq : Go.Proofs.SlLaysEq.n7 Tryz.prog Tryz.lEq_ren := {
  mixed := by kernel_rfl
  f7 := ⟨Tryz.f59.name, by decide, Tryz.func59.trans (congrArg some (by kernel_rfl))⟩
  t0 := Tryz.underlying0
  a0 := Tryz.isAgg0
  z0 := Tryz.sizeOf0
  v0 := Tryz.zeroValue0
  t3 := Tryz.underlying3
  a3 := Tryz.isAgg3
  z3 := Tryz.sizeOf3
  v3 := Tryz.zeroValue3
  t4 := Tryz.underlying4
  a4 := Tryz.isAgg4
  z4 := Tryz.sizeOf4
  v4 := Tryz.zeroValue4
  t23 := Tryz.underlying52
  a23 := Tryz.isAgg52
  z23 := Tryz.sizeOf52
  v23 := Tryz.zeroValue52
  a26 := Tryz.isAgg9
  z26 := Tryz.sizeOf9
  a27 := Tryz.isAgg44
  z27 := Tryz.sizeOf44
  t29 := Tryz.underlying52
  a29 := Tryz.isAgg52
  z29 := Tryz.sizeOf52
  v29 := Tryz.zeroValue52
  a31 := Tryz.isAgg44
  z31 := Tryz.sizeOf44
  t32 := Tryz.underlying122
  a32 := Tryz.isAgg122
  z32 := Tryz.sizeOf122
  v32 := Tryz.zeroValue122
  t37 := Tryz.underlying149
  a37 := Tryz.isAgg149
  z37 := Tryz.sizeOf149 }
end Go.Proofs
