/-
  What lies there for TileBack and TilePaths: the tables, the library's two errors, and one number.
-/
import Derived.Test.YtlgcjdgcgnlcaaaGreatDoorFr
import Derived.Test.YtlgcjdgcgnlcaaaGreatDoorCards
import Derived.Test.YtlgcjdgcgnlcaaaGreatDoorTie
import Derived.Test.YtlgcjdgcgnlcaaaGreatDoorFr4
import Derived.Test.YtlgcjdgcgnlcaaaGreatDoorLzb
import Derived.Lib.LaidTab
import Derived.Lib.TrailingZeros
import Derived.Deep.DeepHandedRow
import Derived.Stop.LaidErr
import Derived.LaidLaws
namespace Go.Proofs.YtlgcjdgcgnlcaaaGreatDoor
open Go.ChangeShapes Go.WideShapes Go.ChangeAt Go.RowKit
set_option linter.unusedVariables false

def dL : List Int := Lib.deBruijn64tab.map fun n : Nat => (n : Int)
def dL32 : List Int := Lib.deBruijn32tab.map fun n : Nat => (n : Int)
def acL : List Int := [128, 191, 160, 191, 128, 159, 144, 191, 128, 143] ++ List.replicate 22 0
def fsL : List Int := Go.Pinned.utf8FirstZ.map fun n : Nat => (n : Int)
theorem gPTt : (Tryz.prog.globals[0]?).map (·.type) = some 211 := by kernel_rfl
theorem undP : Tryz.prog.underlying 211 = some (.array 20 172) := by kernel_rfl
theorem undP8 : Tryz.prog.underlying 172 = some (.int .u64) := by kernel_rfl
theorem cellsP8 : Tryz.prog.cellsOf 172 = 1 := by kernel_rfl
theorem cellsPt : Tryz.prog.cellsOf 211 = 20 := by kernel_rfl
theorem gES : Tryz.prog.globalNamed "strconv.ErrSyntax" = some 4 := by kernel_rfl
theorem gEST : (Tryz.prog.globals[4]?).map (·.type) = some 178 := by kernel_rfl
theorem gER : Tryz.prog.globalNamed "strconv.ErrRange" = some 5 := by kernel_rfl
theorem gERT : (Tryz.prog.globals[5]?).map (·.type) = some 178 := by kernel_rfl
theorem cellsES : Tryz.prog.cellsOf 241 = 1 := by kernel_rfl
theorem cellsSt : Tryz.prog.cellsOf 9 = 1 := by kernel_rfl
theorem starES : "*" ++ "errors.errorString" = "*errors.errorString" := by decide
theorem rowES (u : TypeId) (h : Tryz.prog.typeName? 3 u = some "*errors.errorString") : u = 239 :=
  typeName_ptr_named (nm := "errors.errorString") (by rw [starES]; kernel_rfl) (by kernel_rfl) (by decide) u (by rw [starES]; exact h)
abbrev laid7 : List (String × DataW Unit) := [("math/bits.deBruijn32tab", Rows.laid_math_bits_deBruijn32tab), ("math/bits.deBruijn64tab", Rows.laid_math_bits_deBruijn64tab), ("internal/strconv.uint64pow10", Rows.laid_internal_strconv_uint64pow10), ("unicode/utf8.acceptRanges", Rows.laid_unicode_utf8_acceptRanges), ("strconv.ErrRange", Rows.laid_strconv_ErrRange), ("strconv.ErrSyntax", Rows.laid_strconv_ErrSyntax), ("unicode/utf8.first", Rows.laid_unicode_utf8_first)]
theorem ev_of {W : World} (h : laidMetH Tryz.prog laid7 W) (hsh : W.ShapedOpen Tryz.prog) : EV W := by
  have h0 : laidMet Tryz.prog laid7 W := h
  have h2 := laidMet.tail (laidMet.tail h0)
  have h3 := laidMet.tail (laidMet.tail h2)
  have h4 := laidMet.tail h3
  obtain ⟨a0, s0, hv0, -, -, -⟩ := laid_sentinel h3 gER gERT Tryz.underlying178 rowES Tryz.underlying239 Tryz.underlying241 rfl rfl Tryz.underlying9 cellsES cellsSt
  obtain ⟨a1, s1, hv1, -, -, -⟩ := laid_sentinel h4 gES gEST Tryz.underlying178 rowES Tryz.underlying239 Tryz.underlying241 rfl rfl Tryz.underlying9 cellsES cellsSt
  exact ⟨Lib.tabIs_of_head (rest := [("unicode/utf8.acceptRanges", Rows.laid_unicode_utf8_acceptRanges), ("strconv.ErrRange", Rows.laid_strconv_ErrRange), ("strconv.ErrSyntax", Rows.laid_strconv_ErrSyntax), ("unicode/utf8.first", Rows.laid_unicode_utf8_first)]) gPT gPTt undP undP8 cellsP8 cellsPt h2, Tryz.laysM145.s1_3 W hsh, ⟨_, _, hv1⟩, ⟨_, _, hv0⟩⟩
abbrev synS : ByteArray := { data := #[105, 110, 118, 97, 108, 105, 100, 32, 115, 121, 110, 116, 97, 120] }
abbrev rngS : ByteArray := { data := #[118, 97, 108, 117, 101, 32, 111, 117, 116, 32, 111, 102, 32, 114, 97, 110, 103, 101] }
def putT (l : List Value) : Obj → Obj
  | .cells _ t frozen => .cells l.toArray t frozen
  | o => o
/-- A world with the tables and the two errors laid in it, for the witness; the errors' own blocks are its last two. -/
def laidOf5 (W : World) : World :=
  { W with heap := ((((((W.heap.modify 0 (putT (Lib.pow10Tab.map (Value.int .u64)))).modify 7 (putT (dL.map (Value.int .u8)))).modify 6 (putT (dL32.map (Value.int .u8)))).modify 3 (putT (acL.map (Value.int .u8)))).modify 2 (putT (fsL.map (Value.int .u8)))).modify 5 (putT [.iface 239 (.pointer (some ⟨W.heap.size - 2, 0, none⟩))])).modify 4 (putT [.iface 239 (.pointer (some ⟨W.heap.size - 1, 0, none⟩))]) }
/-- The two errors' own blocks. -/
def errs5 : Array Obj := #[.cells #[.string rngS] 241, .cells #[.string synS] 241]

end Go.Proofs.YtlgcjdgcgnlcaaaGreatDoor
