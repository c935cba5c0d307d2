/-
  The greatest power of two below a number. No program here.
-/
import Derived.Test.YtlgcjdgcgnlcaaaGreatDoorPlain
import Derived.Lib.BitFns
namespace Go.Proofs.YtlgcjdgcgnlcaaaGreatDoor
open Go.RowKit
set_option linter.unusedVariables false

/-- The greatest power of two below n. -/
def hf (n : Nat) : Nat := 2 ^ (Lib.bitLen (n - 1) - 1)

end Go.Proofs.YtlgcjdgcgnlcaaaGreatDoor
