/-
  The three tables, as the program lays them.
-/
import Derived.Test.YtpfdeipdjcknoaaDoorTz
import Derived.Stop.LaidErr
namespace Go.Proofs.YtpfdeipdjcknoaaDoor
open Go.ChangeShapes Go.WideShapes Go.ChangeAt Go.RowKit
set_option linter.unusedVariables false

def dL : List Int := Lib.deBruijn64tab.map fun n : Nat => (n : Int)
def dL32 : List Int := Lib.deBruijn32tab.map fun n : Nat => (n : Int)
theorem gTz : Tryd.prog.globalNamed "math/bits.deBruijn64tab" = some 1 := by kernel_rfl
theorem gTzT : (Tryd.prog.globals[1]?).map (·.type) = some 114 := by kernel_rfl
theorem undTz : Tryd.prog.underlying 114 = some (.array 64 5) := by kernel_rfl
theorem undTz8 : Tryd.prog.underlying 5 = some (.int .u8) := by kernel_rfl
theorem cellsTz8 : Tryd.prog.cellsOf 5 = 1 := by kernel_rfl
theorem cellsTz : Tryd.prog.cellsOf 114 = 64 := by kernel_rfl
theorem kt3_of {W : World} (h : laidMetH Tryd.prog [("math/bits.deBruijn32tab", Rows.laid_math_bits_deBruijn32tab), ("math/bits.deBruijn64tab", Rows.laid_math_bits_deBruijn64tab), ("coppice/hash.constants", Rows.laid_coppice_hash_constants)] W) : KT W ∧ TT W := by
  have h0 : laidMet Tryd.prog [("math/bits.deBruijn32tab", Rows.laid_math_bits_deBruijn32tab), ("math/bits.deBruijn64tab", Rows.laid_math_bits_deBruijn64tab), ("coppice/hash.constants", Rows.laid_coppice_hash_constants)] W := h
  have h1 := laidMet.tail h0
  have h2 := laidMet.tail h1
  have t1 : Lib.TabIs Tryd.prog W "coppice/hash.constants" .u32 kL := Lib.tabIs_of_head (rest := []) gTab gTabT undK undW cellsW cellsK h2
  have t2 : Lib.TabIs Tryd.prog W "math/bits.deBruijn64tab" .u8 dL := Lib.tabIs_of_head (rest := [("coppice/hash.constants", Rows.laid_coppice_hash_constants)]) gTz gTzT undTz undTz8 cellsTz8 cellsTz h1
  refine ⟨fun i hi => ?_, fun i hi => ?_⟩
  · rw [t1.cell gTab i (show i < kL.length from hi)]
  · rw [t2.cell gTz i (show i < dL.length from hi)]
    have : dL.getD i 0 = (Lib.deBruijn64tab.getD i 0 : Int) := by
      have hl : i < Lib.deBruijn64tab.length := hi
      simp [dL, List.getD, hl]
    rw [this]
/-- A world with the tables laid in it, for the witness. -/
def laidOf3 (W : World) : World :=
  { W with heap := ((W.heap.modify 2 fun
      | .cells _ t frozen => .cells (kL.map (Value.int .u32)).toArray t frozen
      | o => o).modify 1 fun
      | .cells _ t frozen => .cells (dL.map (Value.int .u8)).toArray t frozen
      | o => o).modify 0 fun
      | .cells _ t frozen => .cells (dL32.map (Value.int .u8)).toArray t frozen
      | o => o }

end Go.Proofs.YtpfdeipdjcknoaaDoor
