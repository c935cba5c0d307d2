/-
  From how an argument is read as data to what the walks are told of it: a struct of four numbers.
-/
import Derived.Test.YtlgcjdgcgnlcaaaGreatDoorFrA
import Derived.Lib.SmallJoins
namespace Go.Proofs.YtlgcjdgcgnlcaaaGreatDoor
open Go.ChangeShapes Go.WideShapes Go.ChangeAt Go.RowKit
set_option linter.unusedVariables false

end Go.Proofs.YtlgcjdgcgnlcaaaGreatDoor
