/-
  From how an argument is read as data to what the walks are told of it: a slice of bytes.
-/
import Derived.Test.YtpocadbhajacaaaGreatDoorFrA
import Derived.Test.YtpocadbhajacaaaGreatDoorMe
namespace Go.Proofs.YtpocadbhajacaaaGreatDoor
open Go.ChangeShapes Go.WideShapes Go.ChangeAt Go.RowKit
open Go.ChangeMaps (open_string shut_string)
set_option linter.unusedVariables false

theorem bulk_ints {H : Type} (k : IntKind) (zs : List Int) : Rows.uptoBulkAll (H := H) (lits k zs) = zs.length := by
  induction zs with
  | nil => rfl
  | cons z l ih => simp only [lits, List.map_cons, Rows.uptoBulkAll, Rows.uptoBulk, List.length_cons] at ih ⊢; omega

end Go.Proofs.YtpocadbhajacaaaGreatDoor
