/-
  From how an argument is read as data to what the walks are told of it: a slice of digests, a span.
-/
import Derived.Test.YtlgcjdgcgnlcaaaGreatDoorSdg
import Derived.Test.YtlgcjdgcgnlcaaaGreatDoorFr
import Derived.Deep.Slices
namespace Go.Proofs.YtlgcjdgcgnlcaaaGreatDoor
open Go.ChangeShapes Go.WideShapes Go.ChangeAt Go.RowKit
set_option linter.unusedVariables false

theorem aD : Arr 32 5 .u8 32 := ⟨by kernel_rfl, by kernel_rfl, by kernel_rfl, by kernel_rfl, by kernel_rfl, by kernel_rfl⟩
end Go.Proofs.YtlgcjdgcgnlcaaaGreatDoor
