/-
  The library's functions at this program: the numbers, and that their bodies are the library's.
-/
import Derived.Ground.SlmeProg
import Derived.Shelf.SlGeneric
import Derived.Shelf.SlMaps.Equal
import Derived.Test.YtninkkdbcgadpaaGreatDoorProg
namespace Go.Proofs
open Go.Shelf
def Tryz.lEq_ren : Go.Shelf.Ren := ⟨fun | 7 => 58 | n => n, fun | 23 => 56 | 29 => 56 | 26 => 9 | 27 => 39 | 31 => 39 | 32 => 117 | 4 => 4 | 3 => 3 | 0 => 0 | 37 => 143 | n => n, fun | n => n⟩
theorem Tryz.lEq : Go.Proofs.SlLaysEq.n7 Tryz.prog Tryz.lEq_ren := {
  mixed := by kernel_rfl
  f7 := ⟨Tryz.f58.name, by decide, Tryz.func58.trans (congrArg some (by kernel_rfl))⟩
  t0 := Tryz.underlying0
  a0 := Tryz.isAgg0
  z0 := Tryz.sizeOf0
  v0 := Tryz.zeroValue0
  t3 := Tryz.underlying3
  a3 := Tryz.isAgg3
  z3 := Tryz.sizeOf3
  v3 := Tryz.zeroValue3
  t4 := Tryz.underlying4
  a4 := Tryz.isAgg4
  z4 := Tryz.sizeOf4
  v4 := Tryz.zeroValue4
  t23 := Tryz.underlying56
  a23 := Tryz.isAgg56
  z23 := Tryz.sizeOf56
  v23 := Tryz.zeroValue56
  a26 := Tryz.isAgg9
  z26 := Tryz.sizeOf9
  a27 := Tryz.isAgg39
  z27 := Tryz.sizeOf39
  t29 := Tryz.underlying56
  a29 := Tryz.isAgg56
  z29 := Tryz.sizeOf56
  v29 := Tryz.zeroValue56
  a31 := Tryz.isAgg39
  z31 := Tryz.sizeOf39
  t32 := Tryz.underlying117
  a32 := Tryz.isAgg117
  z32 := Tryz.sizeOf117
  v32 := Tryz.zeroValue117
  t37 := Tryz.underlying143
  a37 := Tryz.isAgg143
  z37 := Tryz.sizeOf143 }
end Go.Proofs
