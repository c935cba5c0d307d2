/-
  The program's and the document's Root.
-/
import Derived.Test.YtpfdeipdjcknoaaDoorDg
namespace Go.Proofs.YtpfdeipdjcknoaaDoor
open Go.RowKit
set_option linter.unusedVariables false





end Go.Proofs.YtpfdeipdjcknoaaDoor
