/-
  What lies there for the Bundle statements: the tables, the library's two errors, and one number.
-/
import Derived.Test.YtpocadbhajacaaaGreatDoorFr
import Derived.Test.YtpocadbhajacaaaGreatDoorCards
import Derived.Test.YtpocadbhajacaaaGreatDoorTie
import Derived.Test.YtpocadbhajacaaaGreatDoorLzb
import Derived.Lib.LaidTab
import Derived.Lib.TrailingZeros
import Derived.Deep.DeepHandedRow
import Derived.Stop.LaidErr
import Derived.LaidLaws
import Derived.Shelf.Vars
namespace Go.Proofs.YtpocadbhajacaaaGreatDoor
open Go.ChangeShapes Go.WideShapes Go.ChangeAt Go.RowKit
set_option linter.unusedVariables false

def dL : List Int := Lib.deBruijn64tab.map fun n : Nat => (n : Int)
def dL32 : List Int := Lib.deBruijn32tab.map fun n : Nat => (n : Int)
theorem gPTt : (Tryz.prog.globals[2]?).map (·.type) = some 205 := by kernel_rfl
theorem undP : Tryz.prog.underlying 205 = some (.array 20 89) := by kernel_rfl
theorem undP8 : Tryz.prog.underlying 89 = some (.int .u64) := by kernel_rfl
theorem cellsP8 : Tryz.prog.cellsOf 89 = 1 := by kernel_rfl
theorem cellsPt : Tryz.prog.cellsOf 205 = 20 := by kernel_rfl
theorem gES : Tryz.prog.globalNamed "strconv.ErrSyntax" = some 0 := by kernel_rfl
theorem gEST : (Tryz.prog.globals[0]?).map (·.type) = some 150 := by kernel_rfl
theorem gER : Tryz.prog.globalNamed "strconv.ErrRange" = some 1 := by kernel_rfl
theorem gERT : (Tryz.prog.globals[1]?).map (·.type) = some 150 := by kernel_rfl
theorem cellsES : Tryz.prog.cellsOf 216 = 1 := by kernel_rfl
theorem cellsSt : Tryz.prog.cellsOf 9 = 1 := by kernel_rfl
theorem starES : "*" ++ "errors.errorString" = "*errors.errorString" := by decide
theorem rowES (u : TypeId) (h : Tryz.prog.typeName? 3 u = some "*errors.errorString") : u = 214 :=
  typeName_ptr_named (nm := "errors.errorString") (by rw [starES]; kernel_rfl) (by kernel_rfl) (by decide) u (by rw [starES]; exact h)
abbrev laid5t : List (String × DataW Unit) := [("math/bits.deBruijn32tab", Rows.laid_math_bits_deBruijn32tab), ("math/bits.deBruijn64tab", Rows.laid_math_bits_deBruijn64tab), ("internal/strconv.uint64pow10", Rows.laid_internal_strconv_uint64pow10), ("strconv.ErrRange", Rows.laid_strconv_ErrRange), ("strconv.ErrSyntax", Rows.laid_strconv_ErrSyntax)]
theorem ev_of {W : World} (h : laidMetH Tryz.prog laid5t W) (hsh : W.ShapedOpen Tryz.prog) : EV W := by
  have h0 : laidMet Tryz.prog laid5t W := h
  have h2 := laidMet.tail (laidMet.tail h0)
  have h3 := laidMet.tail h2
  have h4 := laidMet.tail h3
  obtain ⟨a0, s0, hv0, -, -, -⟩ := laid_sentinel h3 gER gERT Tryz.underlying150 rowES Tryz.underlying214 Tryz.underlying216 rfl rfl Tryz.underlying9 cellsES cellsSt
  obtain ⟨a1, s1, hv1, -, -, -⟩ := laid_sentinel h4 gES gEST Tryz.underlying150 rowES Tryz.underlying214 Tryz.underlying216 rfl rfl Tryz.underlying9 cellsES cellsSt
  exact ⟨Lib.tabIs_of_head (rest := [("strconv.ErrRange", Rows.laid_strconv_ErrRange), ("strconv.ErrSyntax", Rows.laid_strconv_ErrSyntax)]) gPT gPTt undP undP8 cellsP8 cellsPt h2, Go.Proofs.cell_of_shapedOpen_int (zero := #[.int .i64 0]) (t := 3) hsh (of_decide_eq_true (by kernel_rfl)) (by kernel_rfl) rfl (by kernel_rfl) (by kernel_rfl) Tryz.underlying3, ⟨_, _, hv1⟩, ⟨_, _, hv0⟩⟩
abbrev synS : ByteArray := { data := #[105, 110, 118, 97, 108, 105, 100, 32, 115, 121, 110, 116, 97, 120] }
abbrev rngS : ByteArray := { data := #[118, 97, 108, 117, 101, 32, 111, 117, 116, 32, 111, 102, 32, 114, 97, 110, 103, 101] }
def putT (l : List Value) : Obj → Obj
  | .cells _ t frozen => .cells l.toArray t frozen
  | o => o
/-- A world with the tables and the two errors laid in it, for the witness; the errors' own blocks are its last two. -/
def laidOf5 (W : World) : World :=
  { W with heap := ((((W.heap.modify 2 (putT (Lib.pow10Tab.map (Value.int .u64)))).modify 5 (putT (dL.map (Value.int .u8)))).modify 4 (putT (dL32.map (Value.int .u8)))).modify 1 (putT [.iface 214 (.pointer (some ⟨W.heap.size - 2, 0, none⟩))])).modify 0 (putT [.iface 214 (.pointer (some ⟨W.heap.size - 1, 0, none⟩))]) }
/-- The two errors' own blocks. -/
def errs5 : Array Obj := #[.cells #[.string rngS] 216, .cells #[.string synS] 216]

end Go.Proofs.YtpocadbhajacaaaGreatDoor
