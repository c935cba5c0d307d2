/-
  The table of the sum, as the program lays it.
-/
import Derived.Test.YtninkkdbcgadpaaGreatDoorFr
import Derived.Test.YtninkkdbcgadpaaGreatDoorJfca
import Derived.Test.YtninkkdbcgadpaaGreatDoorCards
import Derived.Test.YtninkkdbcgadpaaGreatDoorTie
import Derived.Lib.LaidTab
import Derived.Deep.DeepHandedRow
namespace Go.Proofs.YtninkkdbcgadpaaGreatDoor
open Go.ChangeShapes Go.WideShapes Go.ChangeAt Go.RowKit
set_option linter.unusedVariables false
set_option maxRecDepth 100000

def kL : List Int := [0, 498536548, 997073096, 651767980, 1994146192, 1802195444, 1303535960, 1342533948, 3988292384, 4027552580, 3604390888, 3412177804, 2607071920, 2262029012, 2685067896, 3183342108]
theorem kL_fd : ∀ i, i < 16 → kL.getD i 0 = ((fdL.getD i 0 : Nat) : Int) := by decide
/-- The table lies in its place. -/
def KT (w : World) : Prop := ∀ i, i < 16 → w.cell? ⟨0, i, none⟩ = some (.int .u32 (kL.getD i 0))

theorem gTab : Tryz.prog.globalNamed "coppice/frame.folded" = some 0 := by kernel_rfl
theorem gTabT : (Tryz.prog.globals[0]?).map (·.type) = some 166 := by kernel_rfl
theorem undK : Tryz.prog.underlying 166 = some (.array 16 137) := by kernel_rfl
theorem undW : Tryz.prog.underlying 137 = some (.int .u32) := by kernel_rfl
theorem cellsW : Tryz.prog.cellsOf 137 = 1 := by kernel_rfl
theorem cellsK : Tryz.prog.cellsOf 166 = 16 := by kernel_rfl

theorem ktF_of {W : World} (h : laidMetH Tryz.prog [("coppice/frame.folded", Rows.laid_coppice_frame_folded)] W) : KT W := by
  have ht : Lib.TabIs Tryz.prog W "coppice/frame.folded" .u32 kL := Lib.tabIs_of_head (rest := []) gTab gTabT undK undW cellsW cellsK h
  intro i hi
  have := ht.cell gTab i (show i < kL.length from hi)
  rw [this]

theorem KT.below {w w' : World} {B : Nat} (h : KT w) (hb : Below B w w') (hB : 0 < B) : KT w' := fun i hi => by
  rw [hb.cell (p := ⟨0, i, none⟩) hB]; exact h i hi
theorem KT.but {w w' : World} {g : Nat} (h : KT w) (hb : But g w w') (hg : 0 < g) : KT w' := fun i hi => by
  rw [World.cell?_of_block (w := w) (hb.block 0 (by omega))]; exact h i hi
theorem KT.lt {w : World} (h : KT w) : 0 < w.heap.size := World.block_lt_of_cell? w _ (h 0 (by decide))
theorem KT.on {w w' : World} (h : KT w) (hb : Below w.heap.size w w') : KT w' := h.below hb h.lt

/-- A world with the table laid in it, for the witness. -/
def laidOfF (W : World) : World :=
  { W with heap := W.heap.modify 0 fun
      | .cells _ t frozen => .cells (kL.map (Value.int .u32)).toArray t frozen
      | o => o }

end Go.Proofs.YtninkkdbcgadpaaGreatDoor
