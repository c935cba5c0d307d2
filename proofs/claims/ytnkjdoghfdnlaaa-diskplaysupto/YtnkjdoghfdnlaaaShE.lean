/-
  The library's functions at this program: the numbers, and that their bodies are the library's.
-/
import Derived.Ground.SlmeProg
import Derived.Shelf.SlGeneric
import Derived.Shelf.SlMaps.Equal
import Derived.Test.YtnkjdoghfdnlaaaProg
namespace Go.Proofs
open Go.Shelf
def Try.lEq_ren : Go.Shelf.Ren := ⟨fun | 7 => 47 | n => n, fun | 23 => 51 | 29 => 51 | 26 => 9 | 27 => 31 | 31 => 31 | 32 => 88 | 4 => 4 | 3 => 3 | 0 => 0 | 37 => 97 | n => n, fun | n => n⟩
theorem Try.lEq : Go.Proofs.SlLaysEq.n7 Try.prog Try.lEq_ren := {
  mixed := by kernel_rfl
  f7 := ⟨Try.f47.name, by decide, Try.func47.trans (congrArg some (by kernel_rfl))⟩
  t0 := Try.underlying0
  a0 := Try.isAgg0
  z0 := Try.sizeOf0
  v0 := Try.zeroValue0
  t3 := Try.underlying3
  a3 := Try.isAgg3
  z3 := Try.sizeOf3
  v3 := Try.zeroValue3
  t4 := Try.underlying4
  a4 := Try.isAgg4
  z4 := Try.sizeOf4
  v4 := Try.zeroValue4
  t23 := Try.underlying51
  a23 := Try.isAgg51
  z23 := Try.sizeOf51
  v23 := Try.zeroValue51
  a26 := Try.isAgg9
  z26 := Try.sizeOf9
  a27 := Try.isAgg31
  z27 := Try.sizeOf31
  t29 := Try.underlying51
  a29 := Try.isAgg51
  z29 := Try.sizeOf51
  v29 := Try.zeroValue51
  a31 := Try.isAgg31
  z31 := Try.sizeOf31
  t32 := Try.underlying88
  a32 := Try.isAgg88
  z32 := Try.sizeOf88
  v32 := Try.zeroValue88
  t37 := Try.underlying97
  a37 := Try.isAgg97
  z37 := Try.sizeOf97 }
end Go.Proofs
