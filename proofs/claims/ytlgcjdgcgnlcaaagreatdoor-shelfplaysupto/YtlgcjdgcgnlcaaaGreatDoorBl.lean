/-
  bits.Len, and the program's Split.
-/
import Derived.Test.YtlgcjdgcgnlcaaaGreatDoorProg
import Derived.Test.YtlgcjdgcgnlcaaaGreatDoorHf
import Derived.WalkKit
import Derived.WalkSpells
import Derived.WalkLawsBesides
import Derived.Lib.Strings
import Derived.Lib.Small
import Derived.Lib.Walk
namespace Go.Proofs.YtlgcjdgcgnlcaaaGreatDoor
open Go.RowKit
set_option linter.unusedVariables false

end Go.Proofs.YtlgcjdgcgnlcaaaGreatDoor
