/-
  How long a text is that a reading of few letters holds.
-/
import Derived.Test.YtjfambchoijfhaaFrA
namespace Go.Proofs.Ytjfambchoijfhaa
open Go.ChangeShapes Go.WideShapes Go.ChangeAt Go.RowKit
set_option linter.unusedVariables false

theorem str_upto {H : Type} {s : ByteArray} (h : Rows.uptoBulk (DataW.lit (H := H) (.string s.data.toList)) ≤ 1048576) : s.size ≤ 1048576 := by
  simp only [Rows.uptoBulk] at h
  have e : s.data.toList.length = s.size := by rw [Array.length_toList]; rfl
  omega

end Go.Proofs.Ytjfambchoijfhaa
