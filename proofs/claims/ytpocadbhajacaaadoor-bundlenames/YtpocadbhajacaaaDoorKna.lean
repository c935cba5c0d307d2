/-
  Disks that no call made: what each call answers.
-/
import Derived.Test.YtpocadbhajacaaaDoorMe
import Derived.Test.YtpocadbhajacaaaDoorNw
namespace Go.Proofs.YtpocadbhajacaaaDoor
open Go.RowKit
set_option linter.unusedVariables false

/-- A disk that no call made: none, or one whose sector is 0. -/
def Nob (w : World) (p : Option Addr) : Prop := p = none ∨ ∃ g, p = some ⟨g, 0, none⟩ ∧ w.cell? ⟨g, 0, none⟩ = some (.int .i64 0)
theorem Nob.below {w w' : World} {p : Option Addr} (h : Nob w p) (hb : Below w.heap.size w w') : Nob w' p := by
  rcases h with rfl | ⟨g, rfl, h⟩
  · exact .inl rfl
  · exact .inr ⟨g, rfl, cell_kept h hb⟩

/-- What may be a name. -/
def nmB (n : ByteArray) : Bool := decide (1 ≤ n.size) && decide (n.size ≤ 128)
section
variable (p : Option Addr) (w : World) (h : Nob w p)
include h
end
end Go.Proofs.YtpocadbhajacaaaDoor
