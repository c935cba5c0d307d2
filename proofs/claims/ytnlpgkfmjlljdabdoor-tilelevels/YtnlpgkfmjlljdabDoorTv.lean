/-
  All tiles of a log: the document's list, and the program's iterator.
-/
import Derived.Test.YtnlpgkfmjlljdabDoorTp
import Derived.Test.YtnlpgkfmjlljdabDoorTu
import Derived.Test.YtnlpgkfmjlljdabDoorKm
namespace Go.Proofs.YtnlpgkfmjlljdabDoor
open Go.RowKit Go.Shelf
set_option linter.unusedVariables false

/-- A tile of a log by level and index. -/
def tT (h n : Nat) (x : Nat × Nat) : Tl := ((h : Int), (x.1 : Int), (x.2 : Int), (tW h x.1 x.2 n : Int))

end Go.Proofs.YtnlpgkfmjlljdabDoor
