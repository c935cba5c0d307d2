/-
  The table of the constants, as the program lays it.
-/
import Derived.Test.YtnlpgkfmjlljdaaDoorFr
import Derived.Test.YtnlpgkfmjlljdaaDoorCards
import Derived.Test.YtnlpgkfmjlljdaaDoorTie
import Derived.Lib.LaidTab
import Derived.Deep.DeepHandedRow
namespace Go.Proofs.YtnlpgkfmjlljdaaDoor
open Go.ChangeShapes Go.WideShapes Go.ChangeAt Go.RowKit
set_option linter.unusedVariables false

def kL : List Int := [1116352408, 1899447441, 3049323471, 3921009573, 961987163, 1508970993, 2453635748, 2870763221, 3624381080, 310598401, 607225278, 1426881987, 1925078388, 2162078206, 2614888103, 3248222580, 3835390401, 4022224774, 264347078, 604807628, 770255983, 1249150122, 1555081692, 1996064986, 2554220882, 2821834349, 2952996808, 3210313671, 3336571891, 3584528711, 113926993, 338241895, 666307205, 773529912, 1294757372, 1396182291, 1695183700, 1986661051, 2177026350, 2456956037, 2730485921, 2820302411, 3259730800, 3345764771, 3516065817, 3600352804, 4094571909, 275423344, 430227734, 506948616, 659060556, 883997877, 958139571, 1322822218, 1537002063, 1747873779, 1955562222, 2024104815, 2227730452, 2361852424, 2428436474, 2756734187, 3204031479, 3329325298]
/-- The table lies in its place. -/
def KT (w : World) : Prop := ∀ i, i < 64 → w.cell? ⟨6, i, none⟩ = some (.int .u32 (kL.getD i 0))

theorem gTab : Tryd.prog.globalNamed "coppice/hash.constants" = some 6 := by kernel_rfl
theorem gTabT : (Tryd.prog.globals[6]?).map (·.type) = some 153 := by kernel_rfl
theorem undK : Tryd.prog.underlying 153 = some (.array 64 111) := by kernel_rfl
theorem undW : Tryd.prog.underlying 111 = some (.int .u32) := by kernel_rfl
theorem cellsW : Tryd.prog.cellsOf 111 = 1 := by kernel_rfl
theorem cellsK : Tryd.prog.cellsOf 153 = 64 := by kernel_rfl

theorem kt_of {W : World} (h : laidMetH Tryd.prog [("coppice/hash.constants", Rows.laid_coppice_hash_constants)] W) : KT W := by
  have ht : Lib.TabIs Tryd.prog W "coppice/hash.constants" .u32 kL := Lib.tabIs_of_head (rest := []) gTab gTabT undK undW cellsW cellsK h
  intro i hi
  have := ht.cell gTab i (show i < kL.length from hi)
  rw [this]

theorem KT.below {w w' : World} {B : Nat} (h : KT w) (hb : Below B w w') (hB : 6 < B) : KT w' := fun i hi => by
  rw [hb.cell (p := ⟨6, i, none⟩) hB]; exact h i hi
theorem KT.but {w w' : World} {g : Nat} (h : KT w) (hb : But g w w') (hg : 6 < g) : KT w' := fun i hi => by
  rw [World.cell?_of_block (w := w) (hb.block 6 (by omega))]; exact h i hi
theorem KT.lt {w : World} (h : KT w) : 6 < w.heap.size := World.block_lt_of_cell? w _ (h 0 (by decide))

/-- A world with the table laid in it, for the witness. -/
def laidOf (W : World) : World :=
  { W with heap := W.heap.modify 6 fun
      | .cells _ t frozen => .cells (kL.map (Value.int .u32)).toArray t frozen
      | o => o }

end Go.Proofs.YtnlpgkfmjlljdaaDoor
