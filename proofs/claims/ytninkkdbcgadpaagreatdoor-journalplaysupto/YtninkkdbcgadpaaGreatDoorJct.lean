/-
  What lies there for the statements of journal: the tables.
-/
import Derived.Test.YtninkkdbcgadpaaGreatDoorFr
import Derived.Test.YtninkkdbcgadpaaGreatDoorCards
import Derived.Test.YtninkkdbcgadpaaGreatDoorTie
import Derived.Test.YtninkkdbcgadpaaGreatDoorJfcn
import Derived.Test.YtninkkdbcgadpaaGreatDoorJlb
import Derived.Lib.LaidTab
import Derived.Lib.TrailingZeros
import Derived.Deep.DeepHandedRow
import Derived.LaidLaws
import Derived.Stop.LaidErr
namespace Go.Proofs.YtninkkdbcgadpaaGreatDoor
open Go.ChangeShapes Go.WideShapes Go.ChangeAt Go.RowKit
set_option linter.unusedVariables false

/-- Both tables lie in their places. -/
structure TT (w : World) : Prop where
  kt : KT w
  pt : PT w
theorem TT.on {w w' : World} (h : TT w) (hb : Below w.heap.size w w') : TT w' := ⟨h.kt.on hb, h.pt.below hb⟩
theorem KT.same {w w' : World} (h : KT w) (hb : w'.heap[0]? = w.heap[0]?) : KT w' := fun i hi => by
  rw [World.cell?_of_block (w := w) hb]; exact h i hi
theorem TT.under {w w' : World} {B : Nat} (h : TT w) (hb : Below B w w') (h1 : 0 < B) (h2 : 1 < B) : TT w' := ⟨h.kt.below hb h1, h.pt.same (hb.block _ h2)⟩
def dL6 : List Int := Lib.deBruijn64tab.map fun n : Nat => (n : Int)
def dL32 : List Int := Lib.deBruijn32tab.map fun n : Nat => (n : Int)
theorem gPTt : (Tryz.prog.globals[1]?).map (·.type) = some 214 := by kernel_rfl
theorem undP : Tryz.prog.underlying 214 = some (.array 20 136) := by kernel_rfl
theorem undP8 : Tryz.prog.underlying 136 = some (.int .u64) := by kernel_rfl
theorem cellsP8 : Tryz.prog.cellsOf 136 = 1 := by kernel_rfl
theorem cellsPt : Tryz.prog.cellsOf 214 = 20 := by kernel_rfl
theorem kt_of {W : World} (h : laidMetH Tryz.prog [("math/bits.deBruijn32tab", Rows.laid_math_bits_deBruijn32tab), ("math/bits.deBruijn64tab", Rows.laid_math_bits_deBruijn64tab), ("internal/strconv.uint64pow10", Rows.laid_internal_strconv_uint64pow10), ("coppice/frame.folded", Rows.laid_coppice_frame_folded)] W) : TT W := by
  have h0 : laidMet Tryz.prog _ W := h
  have h2 := laidMet.tail (laidMet.tail h0)
  exact ⟨ktF_of (laidMet.tail h2), Lib.tabIs_of_head (rest := [("coppice/frame.folded", Rows.laid_coppice_frame_folded)]) gPT gPTt undP undP8 cellsP8 cellsPt h2⟩
def putT (l : List Value) : Obj → Obj
  | .cells _ t frozen => .cells l.toArray t frozen
  | o => o
/-- A world with the tables laid in it, for the witness. -/
def laidOf (W : World) : World :=
  { W with heap := (((W.heap.modify 1 (putT (Lib.pow10Tab.map (Value.int .u64)))).modify 4 (putT (dL6.map (Value.int .u8)))).modify 3 (putT (dL32.map (Value.int .u8)))).modify 0 (putT (kL.map (Value.int .u32))) }

end Go.Proofs.YtninkkdbcgadpaaGreatDoor
