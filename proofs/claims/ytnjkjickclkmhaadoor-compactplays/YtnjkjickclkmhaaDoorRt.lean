/-
  The program's and the document's Root.
-/
import Derived.Test.YtnjkjickclkmhaaDoorDg
namespace Go.Proofs.YtnjkjickclkmhaaDoor
open Go.RowKit
set_option linter.unusedVariables false





end Go.Proofs.YtnjkjickclkmhaaDoor
