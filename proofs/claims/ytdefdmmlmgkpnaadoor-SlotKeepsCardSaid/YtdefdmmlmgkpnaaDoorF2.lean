/-
  Contract of the reference's Differ.
-/
import Derived.Test.YtdefdmmlmgkpnaaDoorF1
namespace Go.Proofs.YtdefdmmlmgkpnaaDoor
open Go.RowKit
set_option linter.unusedVariables false
set_option linter.unusedSimpArgs false


end Go.Proofs.YtdefdmmlmgkpnaaDoor

