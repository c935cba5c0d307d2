/-
  What lies there for ShelfNames, ShelfBack and ShelfStays: the tables.
-/
import Derived.Test.YtpocadbhajacaaaDoorFrA
import Derived.Test.YtpocadbhajacaaaDoorCards
import Derived.Test.YtpocadbhajacaaaDoorTie
import Derived.Test.YtpocadbhajacaaaDoorLzb
import Derived.Lib.LaidTab
import Derived.Lib.TrailingZeros
import Derived.Deep.DeepHandedRow
import Derived.LaidLaws
import Derived.Stop.LaidErr
namespace Go.Proofs.YtpocadbhajacaaaDoor
open Go.ChangeShapes Go.WideShapes Go.ChangeAt Go.RowKit
set_option linter.unusedVariables false

def dL6 : List Int := Lib.deBruijn64tab.map fun n : Nat => (n : Int)
def dL32 : List Int := Lib.deBruijn32tab.map fun n : Nat => (n : Int)
theorem gPTt : (Tryd.prog.globals[0]?).map (·.type) = some 66 := by kernel_rfl
theorem undP : Tryd.prog.underlying 66 = some (.array 20 52) := by kernel_rfl
theorem undP8 : Tryd.prog.underlying 52 = some (.int .u64) := by kernel_rfl
theorem cellsP8 : Tryd.prog.cellsOf 52 = 1 := by kernel_rfl
theorem cellsPt : Tryd.prog.cellsOf 66 = 20 := by kernel_rfl
theorem kt_of {W : World} (h : laidMetH Tryd.prog [("math/bits.deBruijn32tab", Rows.laid_math_bits_deBruijn32tab), ("math/bits.deBruijn64tab", Rows.laid_math_bits_deBruijn64tab), ("internal/strconv.uint64pow10", Rows.laid_internal_strconv_uint64pow10)] W) : PT W := by
  have h0 : laidMet Tryd.prog _ W := h
  exact Lib.tabIs_of_head (rest := []) gPT gPTt undP undP8 cellsP8 cellsPt (laidMet.tail (laidMet.tail h0))
def putT (l : List Value) : Obj → Obj
  | .cells _ t frozen => .cells l.toArray t frozen
  | o => o
/-- A world with the tables laid in it, for the witness. -/
def laidOf (W : World) : World :=
  { W with heap := ((W.heap.modify 0 (putT (Lib.pow10Tab.map (Value.int .u64)))).modify 3 (putT (dL6.map (Value.int .u8)))).modify 2 (putT (dL32.map (Value.int .u8))) }

end Go.Proofs.YtpocadbhajacaaaDoor
