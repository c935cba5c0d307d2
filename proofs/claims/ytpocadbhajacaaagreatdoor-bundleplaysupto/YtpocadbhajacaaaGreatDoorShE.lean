/-
  The library's functions at this program: the numbers, and that their bodies are the library's.
-/
import Derived.Ground.SlmeProg
import Derived.Shelf.SlGeneric
import Derived.Shelf.SlMaps.Equal
import Derived.Test.YtpocadbhajacaaaGreatDoorProg
namespace Go.Proofs
open Go.Shelf
def Tryz.lEq_ren : Go.Shelf.Ren := ⟨fun | 7 => 58 | n => n, fun | 23 => 48 | 29 => 48 | 26 => 9 | 27 => 31 | 31 => 31 | 32 => 123 | 4 => 4 | 3 => 3 | 0 => 0 | 37 => 147 | n => n, fun | n => n⟩
theorem Tryz.lEq : Go.Proofs.SlLaysEq.n7 Tryz.prog Tryz.lEq_ren := {
  mixed := by kernel_rfl
  f7 := ⟨Tryz.f58.name, by decide, Tryz.func58.trans (congrArg some (by kernel_rfl))⟩
  t0 := Tryz.underlying0
  a0 := Tryz.isAgg0
  z0 := Tryz.sizeOf0
  v0 := Tryz.zeroValue0
  t3 := Tryz.underlying3
  a3 := Tryz.isAgg3
  z3 := Tryz.sizeOf3
  v3 := Tryz.zeroValue3
  t4 := Tryz.underlying4
  a4 := Tryz.isAgg4
  z4 := Tryz.sizeOf4
  v4 := Tryz.zeroValue4
  t23 := Tryz.underlying48
  a23 := Tryz.isAgg48
  z23 := Tryz.sizeOf48
  v23 := Tryz.zeroValue48
  a26 := Tryz.isAgg9
  z26 := Tryz.sizeOf9
  a27 := Tryz.isAgg31
  z27 := Tryz.sizeOf31
  t29 := Tryz.underlying48
  a29 := Tryz.isAgg48
  z29 := Tryz.sizeOf48
  v29 := Tryz.zeroValue48
  a31 := Tryz.isAgg31
  z31 := Tryz.sizeOf31
  t32 := Tryz.underlying123
  a32 := Tryz.isAgg123
  z32 := Tryz.sizeOf123
  v32 := Tryz.zeroValue123
  t37 := Tryz.underlying147
  a37 := Tryz.isAgg147
  z37 := Tryz.sizeOf147 }
end Go.Proofs
